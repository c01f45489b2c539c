/- Texts put together: Gra, NameParts, Rb, Opg, Grb, Shb, Grd, Gre. -/
import Derived.Lib.ItoaNum
import Derived.Lib.Fields
import Derived.Test.YtiflfcpoajijaaaGreatDoorRows
import Derived.WalkKit
import Derived.ProofKit
import Derived.Laws.RangeString
import Derived.WalkSpells
import Derived.OpenShut
import Derived.Deep.Fields
import Derived.Below
import Derived.Laws.NewBlocks
import Derived.Test.YtiflfcpoajijaaaGreatDoorShelf
import Derived.Shelf.Strings.Builder1
import Derived.Test.YtiflfcpoajijaaaGreatDoorShelfI
import Derived.Test.YtiflfcpoajijaaaGreatDoorSl
import Derived.Test.YtiflfcpoajijaaaGreatDoorAp
import Derived.Test.YtiflfcpoajijaaaGreatDoorQc
import Derived.Lib.AppendIntMem
import Derived.Deep.Cut
import Derived.Deep.RegionLaw
import Derived.Deep.RegionWith
import Derived.BigQuiet
/- Numbers' texts and grants' texts as lists of bytes: what is written is read back, and what is read is what would be written. -/
namespace Go.Proofs.YtiflfcpoajijaaaGreatDoor.Gr12
open Go.Lib (decDigits itoa)

def isD (b : UInt8) : Bool := decide (48 ≤ b.toNat) && decide (b.toNat ≤ 57)
/-- The number that digits are. -/
def vl (l : List UInt8) : Nat := l.foldl (fun a b => a * 10 + (b.toNat - 48)) 0
theorem vl_snoc (l : List UInt8) (b : UInt8) : vl (l ++ [b]) = vl l * 10 + (b.toNat - 48) := by unfold vl; rw [List.foldl_append]; rfl
def okD (l : List UInt8) : Bool := decide (1 ≤ l.length) && (decide (l.length ≤ 18) && l.all isD)
/-- What a number's text tells; none of other texts. -/
def nm (l : List UInt8) : Option Int :=
  match l with
  | [] => none
  | b :: d => if b = 45 then (if okD d && !(d.head? == some 48) then some (-(vl d : Int)) else none)
      else if okD (b :: d) && (!(b == 48) || d.isEmpty) then some (vl (b :: d) : Int) else none

theorem ofN (x : Nat) (h : x < 256) : (UInt8.ofNat x).toNat = x := UInt8.toNat_ofNat_of_lt' (by unfold UInt8.size; omega)
theorem dec_lt {u : Nat} (h : u < 10) : decDigits u = [UInt8.ofNat (48 + u)] := by rw [decDigits, dif_pos h]
theorem dec_ge {u : Nat} (h : ¬ u < 10) : decDigits u = decDigits (u / 10) ++ [UInt8.ofNat (48 + u % 10)] := by rw [decDigits, dif_neg h]
theorem isD_of (x : Nat) (h : x < 10) : isD (UInt8.ofNat (48 + x)) = true := by
  unfold isD; rw [ofN _ (by omega)]; simp; omega
theorem dec_all (u : Nat) : (decDigits u).all isD = true := by
  induction u using Nat.strongRecOn with
  | _ u ih =>
    by_cases h : u < 10
    · rw [dec_lt h, List.all_cons, isD_of u h]; rfl
    · rw [dec_ge h, List.all_append, ih (u / 10) (by omega), List.all_cons, isD_of (u % 10) (by omega)]; rfl
theorem dec_val (u : Nat) : vl (decDigits u) = u := by
  induction u using Nat.strongRecOn with
  | _ u ih =>
    by_cases h : u < 10
    · rw [dec_lt h]; show 0 * 10 + ((UInt8.ofNat (48 + u)).toNat - 48) = u; rw [ofN _ (by omega)]; omega
    · rw [dec_ge h, vl_snoc, ih (u / 10) (by omega), ofN _ (by omega)]; omega
theorem dec_ne (u : Nat) : decDigits u ≠ [] := by
  by_cases h : u < 10
  · rw [dec_lt h]; simp
  · rw [dec_ge h]; simp
theorem dec_len : ∀ (k u : Nat), u < 10 ^ (k + 1) → (decDigits u).length ≤ k + 1
  | 0, u, h => by rw [dec_lt (by simpa using h)]; simp
  | k + 1, u, h => by
    by_cases h1 : u < 10
    · rw [dec_lt h1]; simp
    · rw [dec_ge h1, List.length_append]
      have := dec_len k (u / 10) (by rw [Nat.pow_succ] at h; omega)
      simp; omega
theorem head_app {l m : List UInt8} (h : l ≠ []) : (l ++ m).head? = l.head? := by cases l with | nil => exact absurd rfl h | cons a l => rfl
theorem dec_head (u : Nat) : (decDigits u).head? = some 48 → u = 0 := by
  induction u using Nat.strongRecOn with
  | _ u ih =>
    by_cases h : u < 10
    · rw [dec_lt h]; intro e
      have : UInt8.ofNat (48 + u) = 48 := by simpa using e
      have := congrArg UInt8.toNat this
      rw [ofN _ (by omega)] at this
      have h48 : (48 : UInt8).toNat = 48 := rfl
      omega
    · rw [dec_ge h, head_app (dec_ne _)]
      intro e
      have := ih (u / 10) (by omega) e
      omega
/-- What is written is read back. -/
theorem nm_itoa (n : Int) (h0 : 0 ≤ n) (h1 : n < 1000000000000000000) : nm (itoa n) = some n := by
  have e : itoa n = decDigits n.toNat := by unfold itoa; rw [if_neg (by omega)]
  rw [e]
  have hall := dec_all n.toNat
  have hne := dec_ne n.toNat
  have hl := dec_len 17 n.toNat (by omega)
  have hv := dec_val n.toNat
  have hh := dec_head n.toNat
  have hz : n.toNat = 0 → decDigits n.toNat = [48] := fun e => by rw [e, dec_lt (by decide)]; rfl
  generalize decDigits n.toNat = l at *
  cases l with
  | nil => exact absurd rfl hne
  | cons b d =>
    have hb : b ≠ 45 := by
      intro e; rw [e] at hall; simp [isD] at hall
    have hok : okD (b :: d) = true := by unfold okD; rw [hall]; simp at hl ⊢; omega
    unfold nm
    simp only [hok, if_neg hb]
    rw [if_pos, hv]
    · congr 1; omega
    · by_cases e : b = 48
      · have := hz (hh (by simp [e]))
        simp at this
        simp [e, this.2]
      · simp [e]
theorem snoc_of {l : List UInt8} (h : l ≠ []) : ∃ m b, l = m ++ [b] := ⟨l.dropLast, l.getLast h, (List.dropLast_concat_getLast h).symm⟩
theorem val_pos : ∀ (n : Nat) (l : List UInt8), l.length = n → l.all isD = true → l ≠ [] → l.head? ≠ some 48 → 0 < vl l
  | 0, l, h, _, hn, _ => absurd (List.length_eq_zero_iff.1 h) hn
  | n + 1, l, h, ha, hn, hh => by
    obtain ⟨m, b, rfl⟩ := snoc_of hn
    rw [vl_snoc]
    cases m with
    | nil =>
      simp at hh ha
      have : 48 ≤ b.toNat := by simp [isD] at ha; omega
      have h2 : b.toNat ≠ 48 := fun e => hh (by apply UInt8.toNat_inj.1; exact e)
      omega
    | cons a m =>
      have := val_pos n (a :: m) (by simp at h ⊢; omega) (by rw [List.all_append, Bool.and_eq_true] at ha; exact ha.1) (by simp) (by simpa using hh)
      omega
theorem dec_back : ∀ (n : Nat) (l : List UInt8), l.length = n → l.all isD = true → l ≠ [] → l.head? ≠ some 48 → decDigits (vl l) = l
  | 0, l, h, _, hn, _ => absurd (List.length_eq_zero_iff.1 h) hn
  | n + 1, l, h, ha, hn, hh => by
    obtain ⟨m, b, rfl⟩ := snoc_of hn
    have hb : 48 ≤ b.toNat ∧ b.toNat ≤ 57 := by
      have := List.all_eq_true.1 ha b (by simp)
      simp [isD] at this; omega
    rw [vl_snoc]
    cases m with
    | nil =>
      have e : vl ([] : List UInt8) * 10 + (b.toNat - 48) = b.toNat - 48 := by simp [vl]
      rw [e, dec_lt (by omega), List.nil_append]
      congr 1
      apply UInt8.toNat_inj.1; rw [ofN _ (by omega)]; omega
    | cons a m =>
      have ha2 : (a :: m).all isD = true := by rw [List.all_append, Bool.and_eq_true] at ha; exact ha.1
      have hh2 : (a :: m).head? ≠ some 48 := by simpa using hh
      have hp := val_pos n (a :: m) (by simp at h ⊢; omega) ha2 (by simp) hh2
      have ih := dec_back n (a :: m) (by simp at h ⊢; omega) ha2 (by simp) hh2
      rw [dec_ge (by omega), show (vl (a :: m) * 10 + (b.toNat - 48)) / 10 = vl (a :: m) by omega, ih]
      congr 2
      apply UInt8.toNat_inj.1; rw [ofN _ (by omega)]; omega
/-- What is read is what would be written. -/
theorem itoa_nm (l : List UInt8) (n : Int) (h : nm l = some n) (h0 : 0 ≤ n) : itoa n = l := by
  cases l with
  | nil => simp [nm] at h
  | cons b d =>
    unfold nm at h
    by_cases hb : b = 45
    · simp only [if_pos hb] at h
      split at h
      · rename_i hc
        rw [Bool.and_eq_true] at hc
        have ho := hc.1
        have hz : d.head? ≠ some 48 := by simpa using hc.2
        unfold okD at ho
        simp only [Bool.and_eq_true, decide_eq_true_eq] at ho
        have := val_pos d.length d rfl ho.2.2 (by intro e; rw [e] at ho; simp at ho) hz
        injection h with h
        omega
      · cases h
    · simp only [if_neg hb] at h
      split at h
      · rename_i hc
        injection h with h
        rw [Bool.and_eq_true] at hc
        have ho := hc.1
        unfold okD at ho
        simp only [Bool.and_eq_true, decide_eq_true_eq] at ho
        subst h
        have e : itoa (vl (b :: d) : Int) = decDigits (vl (b :: d)) := by unfold itoa; rw [if_neg (by omega), Int.toNat_natCast]
        rw [e]
        by_cases h48 : b = 48
        · have hd : d = [] := by simpa [h48] using hc.2
          rw [hd, h48, show vl [48] = 0 from rfl, dec_lt (by decide)]; rfl
        · exact dec_back _ (b :: d) rfl ho.2.2 (by simp) (by simpa using h48)
      · cases h
theorem itoa_all (n : Int) (h0 : 0 ≤ n) : ∀ b ∈ itoa n, isD b = true := by
  unfold itoa; rw [if_neg (by omega)]; exact List.all_eq_true.1 (dec_all _)
theorem itoa_ne (n : Int) (h0 : 0 ≤ n) : itoa n ≠ [] := by unfold itoa; rw [if_neg (by omega)]; exact dec_ne _
theorem itoa_len (n : Int) (h0 : 0 ≤ n) (h1 : n < 1000000000000000000) : (itoa n).length ≤ 18 := by
  unfold itoa; rw [if_neg (by omega)]; exact dec_len 17 _ (by omega)

/-- A text parted at each blank. -/
def cutL : List UInt8 → List UInt8 → List (List UInt8)
  | cur, [] => [cur]
  | cur, b :: l => if b = 32 then cur :: cutL [] l else cutL (cur ++ [b]) l
theorem cutL_ne (cur l : List UInt8) : cutL cur l ≠ [] := by
  induction l generalizing cur with
  | nil => simp [cutL]
  | cons b l ih => unfold cutL; split; simp; exact ih _
def joinL : List (List UInt8) → List UInt8
  | [] => []
  | [a] => a
  | a :: b :: l => a ++ 32 :: joinL (b :: l)
theorem join_cut (l : List UInt8) : ∀ cur, joinL (cutL cur l) = cur ++ l := by
  induction l with
  | nil => intro cur; simp [cutL, joinL]
  | cons b l ih =>
    intro cur
    unfold cutL
    split
    · rename_i h
      have hne := cutL_ne [] l
      have := ih []
      cases hc : cutL [] l with
      | nil => exact absurd hc hne
      | cons x xs => rw [hc] at this; simp only [joinL]; rw [this, h]; simp
    · rw [ih]; simp
theorem cut_app (a l : List UInt8) (h : ∀ b ∈ a, b ≠ 32) : ∀ cur, cutL cur (a ++ l) = cutL (cur ++ a) l := by
  induction a with
  | nil => intro cur; simp
  | cons b a ih =>
    intro cur
    simp only [List.cons_append]
    rw [cutL, if_neg (h b (by simp)), ih (fun x hx => h x (by simp [hx]))]
    simp
theorem cut_word (a l : List UInt8) (h : ∀ b ∈ a, b ≠ 32) : cutL [] (a ++ 32 :: l) = a :: cutL [] l := by
  rw [cut_app a _ h]; simp [cutL]
theorem cut_last (a : List UInt8) (h : ∀ b ∈ a, b ≠ 32) : cutL [] a = [a] := by
  have := cut_app a [] h []
  simpa [cutL] using this
theorem fld_app (a l : List UInt8) (h : ∀ b ∈ a, Lib.isSp b = false) : ∀ cur, Lib.fieldsGo cur (a ++ l) = Lib.fieldsGo (cur ++ a) l := by
  induction a with
  | nil => intro cur; simp
  | cons b a ih =>
    intro cur
    simp only [List.cons_append]
    rw [Lib.fieldsGo, h b (by simp)]
    simp only [Bool.false_eq_true, if_false]
    rw [ih (fun x hx => h x (by simp [hx]))]; simp
theorem fld_word (a l : List UInt8) (hn : a ≠ []) (h : ∀ b ∈ a, Lib.isSp b = false) : Lib.fieldsGo [] (a ++ 32 :: l) = a :: Lib.fieldsGo [] l := by
  rw [fld_app a _ h]
  simp only [List.nil_append]
  rw [Lib.fieldsGo, show Lib.isSp 32 = true from rfl]
  cases a with
  | nil => exact absurd rfl hn
  | cons x a => simp
theorem fld_last (a : List UInt8) (hn : a ≠ []) (h : ∀ b ∈ a, Lib.isSp b = false) : Lib.fieldsGo [] a = [a] := by
  have := fld_app a [] h []
  simp only [List.append_nil, List.nil_append] at this
  rw [this, Lib.fieldsGo]
  cases a with
  | nil => exact absurd rfl hn
  | cons x a => simp

/-- A grant: its name, its holder, token and expiry. -/
structure Gg where
  nm : ByteArray
  hd : Int
  tk : Int
  ex : Int
def letU (b : UInt8) : Bool := decide (97 ≤ b.toNat ∧ b.toNat ≤ 122 ∨ 65 ≤ b.toNat ∧ b.toNat ≤ 90 ∨ b.toNat = 95)
def wrd : List UInt8 := [103, 114, 97, 110, 116]
/-- A grant's text. -/
def txL (n : List UInt8) (h k e : Int) : List UInt8 := wrd ++ 32 :: (n ++ 32 :: (itoa h ++ 32 :: (itoa k ++ 32 :: itoa e)))
def tx (g : Gg) : ByteArray := ⟨(txL g.nm.data.toList g.hd g.tk g.ex).toArray⟩
/-- Names have letters and digits alone. -/
def Nmd (l : List UInt8) : Prop := l ≠ [] ∧ ∀ b ∈ l, letU b = true ∨ isD b = true
def Rng (h k e : Int) : Prop := 0 ≤ h ∧ h < 1000000000000000000 ∧ 0 ≤ k ∧ k < 1000000000000000000 ∧ 0 ≤ e ∧ e < 1000000000000000000
theorem sp_no {b : UInt8} (h : letU b = true ∨ isD b = true) : b ≠ 32 ∧ Lib.isSp b = false ∧ b.toNat < 128 := by
  have hb : 48 ≤ b.toNat ∧ b.toNat < 128 := by
    rcases h with h | h
    · unfold letU at h; rw [decide_eq_true_eq] at h; omega
    · unfold isD at h; simp only [Bool.and_eq_true, decide_eq_true_eq] at h; omega
  have ne : ∀ c : UInt8, c.toNat < 48 → (b == c) = false := fun c hc => by
    rw [beq_eq_false_iff_ne]; intro e; rw [e] at hb; omega
  refine ⟨fun e => by have := ne 32 (by decide); simp [e] at this, ?_, hb.2⟩
  unfold Lib.isSp
  rw [ne 9 (by decide), ne 10 (by decide), ne 11 (by decide), ne 12 (by decide), ne 13 (by decide), ne 32 (by decide)]
  rfl
theorem wrd_ok : ∀ b ∈ wrd, letU b = true := by decide
theorem cut_txt (n : List UInt8) (h k e : Int) (hn : Nmd n) (hr : Rng h k e) : cutL [] (txL n h k e) = [wrd, n, itoa h, itoa k, itoa e] := by
  unfold txL
  rw [cut_word _ _ (fun b hb => (sp_no (.inl (wrd_ok b hb))).1), cut_word _ _ (fun b hb => (sp_no (hn.2 b hb)).1), cut_word _ _ (fun b hb => (sp_no (.inr (itoa_all h hr.1 b hb))).1), cut_word _ _ (fun b hb => (sp_no (.inr (itoa_all k hr.2.2.1 b hb))).1), cut_last _ (fun b hb => (sp_no (.inr (itoa_all e hr.2.2.2.2.1 b hb))).1)]
theorem fld_txt (n : List UInt8) (h k e : Int) (hn : Nmd n) (hr : Rng h k e) : Lib.fields (txL n h k e) = [wrd, n, itoa h, itoa k, itoa e] := by
  unfold txL Lib.fields
  rw [fld_word _ _ (by decide) (fun b hb => (sp_no (.inl (wrd_ok b hb))).2.1), fld_word _ _ hn.1 (fun b hb => (sp_no (hn.2 b hb)).2.1), fld_word _ _ (itoa_ne h hr.1) (fun b hb => (sp_no (.inr (itoa_all h hr.1 b hb))).2.1), fld_word _ _ (itoa_ne k hr.2.2.1) (fun b hb => (sp_no (.inr (itoa_all k hr.2.2.1 b hb))).2.1), fld_last _ (itoa_ne e hr.2.2.2.2.1) (fun b hb => (sp_no (.inr (itoa_all e hr.2.2.2.2.1 b hb))).2.1)]
theorem txt_ascii (n : List UInt8) (h k e : Int) (hn : Nmd n) (hr : Rng h k e) : ∀ b ∈ txL n h k e, b.toNat < 128 := by
  intro b hb
  unfold txL at hb
  simp only [List.mem_append, List.mem_cons] at hb
  have h32 : ∀ {b : UInt8}, b = 32 → b.toNat < 128 := fun e => by rw [e]; decide
  rcases hb with hb | hb | hb | hb | hb | hb | hb | hb | hb
  · exact (sp_no (.inl (wrd_ok b hb))).2.2
  · exact h32 hb
  · exact (sp_no (hn.2 b hb)).2.2
  · exact h32 hb
  · exact (sp_no (.inr (itoa_all h hr.1 b hb))).2.2
  · exact h32 hb
  · exact (sp_no (.inr (itoa_all k hr.2.2.1 b hb))).2.2
  · exact h32 hb
  · exact (sp_no (.inr (itoa_all e hr.2.2.2.2.1 b hb))).2.2
def baL (l : List UInt8) : ByteArray := ⟨l.toArray⟩
theorem baL_list (l : List UInt8) : (baL l).data.toList = l := rfl
theorem baL_back (s : ByteArray) : baL s.data.toList = s := rfl
/-- What words behind the first tell: the grant, if it is right (by ok). -/
def gOf (ok : Gg → Bool) (w1 w2 w3 w4 : List UInt8) : Option Gg :=
  match nm w2, nm w3, nm w4 with
  | some a, some b, some c => if ok ⟨baL w1, a, b, c⟩ then some ⟨baL w1, a, b, c⟩ else none
  | _, _, _ => none
/-- What the specification reads. -/
def rsp (ok : Gg → Bool) (t : ByteArray) : Option Gg :=
  match cutL [] t.data.toList with
  | [w0, w1, w2, w3, w4] => if w0 = wrd then gOf ok w1 w2 w3 w4 else none
  | _ => none
/-- What the program reads. -/
def rim (ok : Gg → Bool) (fs : List (List UInt8)) (t : ByteArray) : Option Gg :=
  match fs with
  | [_, w1, w2, w3, w4] => match gOf ok w1 w2 w3 w4 with
    | some g => if tx g = t then some g else none
    | none => none
  | _ => none
theorem gOf_some {ok : Gg → Bool} {w1 w2 w3 w4 : List UInt8} {g : Gg} (h : gOf ok w1 w2 w3 w4 = some g) : g.nm = baL w1 ∧ nm w2 = some g.hd ∧ nm w3 = some g.tk ∧ nm w4 = some g.ex ∧ ok g = true := by
  unfold gOf at h
  split at h
  · rename_i a b c e1 e2 e3
    split at h
    · rename_i ho; injection h with h; subst h; exact ⟨rfl, e1, e2, e3, ho⟩
    · cases h
  · cases h
theorem gOf_txt {ok : Gg → Bool} {g : Gg} (hr : Rng g.hd g.tk g.ex) (ho : ok g = true) : gOf ok g.nm.data.toList (itoa g.hd) (itoa g.tk) (itoa g.ex) = some g := by
  unfold gOf
  rw [nm_itoa _ hr.1 hr.2.1, nm_itoa _ hr.2.2.1 hr.2.2.2.1, nm_itoa _ hr.2.2.2.2.1 hr.2.2.2.2.2]
  exact if_pos ho
/-- Both read just a right grant's own text. -/
theorem rsp_iff (ok : Gg → Bool) (hok : ∀ g, ok g = true → Nmd g.nm.data.toList ∧ Rng g.hd g.tk g.ex) (t : ByteArray) (g : Gg) : rsp ok t = some g ↔ ok g = true ∧ tx g = t := by
  constructor
  · intro h
    unfold rsp at h
    split at h
    · rename_i w0 w1 w2 w3 w4 hc
      split at h
      · rename_i h0
        obtain ⟨e1, e2, e3, e4, e5⟩ := gOf_some h
        refine ⟨e5, ?_⟩
        have hr := (hok g e5).2
        have hj := join_cut t.data.toList []
        rw [hc] at hj
        simp only [joinL, List.nil_append] at hj
        have hn : g.nm.data.toList = w1 := by rw [e1]; rfl
        have : txL g.nm.data.toList g.hd g.tk g.ex = t.data.toList := by
          unfold txL
          rw [hn, itoa_nm _ _ e2 hr.1, itoa_nm _ _ e3 hr.2.2.1, itoa_nm _ _ e4 hr.2.2.2.2.1, ← h0]
          exact hj
        unfold tx; rw [this]
      · cases h
    · cases h
  · rintro ⟨ho, rfl⟩
    obtain ⟨hn, hr⟩ := hok g ho
    unfold rsp
    rw [show (tx g).data.toList = txL g.nm.data.toList g.hd g.tk g.ex from rfl, cut_txt _ _ _ _ hn hr]
    simp only [if_true]
    exact gOf_txt hr ho
theorem rim_iff (ok : Gg → Bool) (hok : ∀ g, ok g = true → Nmd g.nm.data.toList ∧ Rng g.hd g.tk g.ex) (fs : List (List UInt8)) (t : ByteArray) (hfs : (∀ b ∈ t.data.toList, b.toNat < 128) → fs = Lib.fields t.data.toList) (g : Gg) : rim ok fs t = some g ↔ ok g = true ∧ tx g = t := by
  constructor
  · intro h
    unfold rim at h
    split at h
    · rename_i w0 w1 w2 w3 w4
      split at h
      · rename_i g' h0
        obtain ⟨_, _, _, _, e5⟩ := gOf_some h0
        split at h
        · rename_i ht; injection h with h; subst h; exact ⟨e5, ht⟩
        · cases h
      · cases h
    · cases h
  · rintro ⟨ho, rfl⟩
    obtain ⟨hn, hr⟩ := hok g ho
    have e : fs = [wrd, g.nm.data.toList, itoa g.hd, itoa g.tk, itoa g.ex] := by
      rw [hfs (by exact txt_ascii _ _ _ _ hn hr)]
      exact fld_txt _ _ _ _ hn hr
    unfold rim
    rw [e]
    simp only [gOf_txt hr ho, if_true]
theorem rim_rsp (ok : Gg → Bool) (hok : ∀ g, ok g = true → Nmd g.nm.data.toList ∧ Rng g.hd g.tk g.ex) (fs : List (List UInt8)) (t : ByteArray) (hfs : (∀ b ∈ t.data.toList, b.toNat < 128) → fs = Lib.fields t.data.toList) : rim ok fs t = rsp ok t := by
  cases h : rsp ok t with
  | some g => exact (rim_iff ok hok fs t hfs g).2 ((rsp_iff ok hok t g).1 h)
  | none =>
    cases h2 : rim ok fs t with
    | none => rfl
    | some g => rw [(rsp_iff ok hok t g).2 ((rim_iff ok hok fs t hfs g).1 h2)] at h; cases h
end Go.Proofs.YtiflfcpoajijaaaGreatDoor.Gr12

/- What the helpers of both NameOK functions answer, and what each of the two answers: for every number, for every text. -/
namespace Go.Proofs.YtiflfcpoajijaaaGreatDoor.Nm
open Go.RowKit

def letB (n : Int) : Bool := decide (97 ≤ n ∧ n ≤ 122 ∨ 65 ≤ n ∧ n ≤ 90 ∨ n = 95)
def digB (n : Int) : Bool := decide (48 ≤ n ∧ n ≤ 57)
theorem ret_bool {a b : Bool} (h : a = b) : Ending.returned (.bool a) = .returned (.bool b) := by rw [h]
theorem regions (n : Int) : n ≤ 64 ∨ (65 ≤ n ∧ n ≤ 90) ∨ (91 ≤ n ∧ n ≤ 94) ∨ n = 95 ∨ n = 96 ∨ (97 ≤ n ∧ n ≤ 122) ∨ 123 ≤ n := by omega
theorem digions (n : Int) : n ≤ 47 ∨ (48 ≤ n ∧ n ≤ 57) ∨ 58 ≤ n := by omega

theorem isLetter_any (n : Int) (w : World) :
    Calls Tryz.prog 123 #[.int .i32 n] w fun e w' => e = .returned (.bool (letB n)) ∧ w' = w := by
  rcases regions n with h | ⟨h, h'⟩ | ⟨h, h'⟩ | rfl | rfl | ⟨h, h'⟩ | h
  all_goals
    go_enter Tryz.func123, Tryz.ntmps123
    go_wp2
    go_ret
    exact ⟨ret_bool (by unfold letB; rw [Bool.eq_iff_iff]; simp; try omega), rfl⟩
theorem isDigit_any (n : Int) (w : World) :
    Calls Tryz.prog 124 #[.int .i32 n] w fun e w' => e = .returned (.bool (digB n)) ∧ w' = w := by
  rcases digions n with h | ⟨h, h'⟩ | h
  all_goals
    go_enter Tryz.func124, Tryz.ntmps124
    go_wp2
    go_ret
    exact ⟨ret_bool (by unfold digB; rw [Bool.eq_iff_iff]; simp; try omega), rfl⟩
theorem l00Letter_any (n : Int) (w : World) :
    Calls Tryz.prog 129 #[.int .u8 n] w fun e w' => e = .returned (.bool (letB n)) ∧ w' = w := by
  rcases regions n with h | ⟨h, h'⟩ | ⟨h, h'⟩ | rfl | rfl | ⟨h, h'⟩ | h
  all_goals
    go_enter Tryz.func129, Tryz.ntmps129
    go_wp2
    go_ret
    exact ⟨ret_bool (by unfold letB; rw [Bool.eq_iff_iff]; simp; try omega), rfl⟩
theorem l00Digit_any (n : Int) (w : World) :
    Calls Tryz.prog 130 #[.int .u8 n] w fun e w' => e = .returned (.bool (digB n)) ∧ w' = w := by
  rcases digions n with h | ⟨h, h'⟩ | h
  all_goals
    go_enter Tryz.func130, Tryz.ntmps130
    go_wp2
    go_ret
    exact ⟨ret_bool (by unfold digB; rw [Bool.eq_iff_iff]; simp; try omega), rfl⟩

def okAt (s : ByteArray) (i : Nat) : Bool := letB ((s.data.toList.getD i 0).toNat : Int) || (decide (i ≠ 0) && digB ((s.data.toList.getD i 0).toNat : Int))
def nameB (s : ByteArray) : Bool := decide (1 ≤ s.size ∧ s.size ≤ 40 ∧ ∀ i, i < s.size → okAt s i = true)
theorem getD_at (s : ByteArray) (i : Nat) (h : i < s.size) : s.data.toList.getD i 0 = s[i] := by
  have : i < s.data.toList.length := by simpa using h
  simp [List.getD_eq_getElem?_getD, List.getElem?_eq_getElem this]; rfl
theorem okAt_eq (s : ByteArray) (i : Nat) (h : i < s.size) : okAt s i = (letB (s[i].toNat : Int) || (decide (i ≠ 0) && digB (s[i].toNat : Int))) := by
  unfold okAt; rw [getD_at s i h]
theorem name_no (s : ByteArray) (i : Nat) (h : i < s.size) (hn : okAt s i = false) : nameB s = false := by
  unfold nameB; simp only [decide_eq_false_iff_not]; rintro ⟨_, _, h'⟩; rw [h' i h] at hn; cases hn
theorem name_yes (s : ByteArray) (h1 : 1 ≤ s.size) (h2 : s.size ≤ 40) (h : ∀ i, i < s.size → okAt s i = true) : nameB s = true := by
  unfold nameB; simp only [decide_eq_true_eq]; exact ⟨h1, h2, h⟩
theorem name_small (s : ByteArray) (h : s.size = 0 ∨ 40 < s.size) : nameB s = false := by
  unfold nameB; simp only [decide_eq_false_iff_not]; omega

set_option maxHeartbeats 400000 in
theorem l00Word_any (s : ByteArray) (w : World) (hs : s.size ≤ maxLen) :
    Calls Tryz.prog 121 #[.string s] w fun e w' => e = .returned (.bool (nameB s)) ∧ w' = w := by
  unfold maxLen at hs
  by_cases h0 : s.size = 0
  · have hn := name_small s (.inl h0)
    have h1 : (s.size : Int) < 1 := by omega
    go_enter Tryz.func121, Tryz.ntmps121
    go_wp2
    go_ret
    exact ⟨ret_bool hn.symm, rfl⟩
  by_cases h4 : 40 < s.size
  · have hn := name_small s (.inr h4)
    have h1 : (1 : Int) ≤ (s.size : Int) := by omega
    have h2 : (40 : Int) < (s.size : Int) := by omega
    go_enter Tryz.func121, Tryz.ntmps121
    go_wp2
    go_ret
    exact ⟨ret_bool hn.symm, rfl⟩
  have hp : 0 < s.size := by omega
  have h1 : (1 : Int) ≤ (s.size : Int) := by omega
  have h2 : (s.size : Int) ≤ 40 := by omega
  cases hl : letB ((s[0]'hp).toNat : Int)
  · have hn := name_no s 0 hp (by rw [okAt_eq s 0 hp, hl]; rfl)
    go_enter Tryz.func121, Tryz.ntmps121
    go_wp2_with (go_at_call 129; refine (l00Letter_any _ _).mono ?_; rintro e w' ⟨rfl, rfl⟩)
    go_ret
    exact ⟨ret_bool hn.symm, rfl⟩
  have hok0 : okAt s 0 = true := by rw [okAt_eq s 0 hp, hl]; rfl
  go_enter Tryz.func121, Tryz.ntmps121
  go_wp2_with (go_at_call 129; refine (l00Letter_any _ _).mono ?_; rintro e w' ⟨rfl, rfl⟩)
  have H0 : Hid (okAt s 0 = true) := hok0
  clear hok0 hl
  go_loop [3] (fun i => ∃ k : Nat, 1 ≤ k ∧ k ≤ s.size ∧ i = .int .i64 k ∧ Hid (∀ j, j < k → okAt s j = true)) (fun i => s.size - (intOf i).toNat)
  case atStart => exact ⟨1, Nat.le_refl _, by omega, rfl, fun j hj => (show j = 0 by omega) ▸ H0.out⟩
  case round =>
    obtain ⟨k, hk1, hk2, rfl, hall⟩ := hrel
    by_cases hlt : k < s.size
    · cases hl : letB ((s[k]'hlt).toNat : Int)
      · cases hd : digB ((s[k]'hlt).toNat : Int)
        · have hn : Hid (nameB s = false) := name_no s k hlt (by rw [okAt_eq s k hlt, hl, hd]; simp)
          go_wp2_with (first | (go_at_call 129; refine (l00Letter_any _ _).mono ?_; rintro e w' ⟨rfl, rfl⟩) | (go_at_call 130; refine (l00Digit_any _ _).mono ?_; rintro e w' ⟨rfl, rfl⟩))
          go_ret
          exact ⟨ret_bool hn.out.symm, rfl⟩
        · have hk : Hid (okAt s k = true) := by show okAt s k = true; rw [okAt_eq s k hlt, hl, hd]; simp; omega
          go_wp2_with (first | (go_at_call 129; refine (l00Letter_any _ _).mono ?_; rintro e w' ⟨rfl, rfl⟩) | (go_at_call 130; refine (l00Digit_any _ _).mono ?_; rintro e w' ⟨rfl, rfl⟩))
          go_round
          case rel => exact ⟨k + 1, by omega, by omega, by go_num, fun j hj => by by_cases e : j = k; (subst e; exact hk.out); exact hall.out j (by omega)⟩
          case measure => simp [intOf]; omega
      · have hk : Hid (okAt s k = true) := by show okAt s k = true; rw [okAt_eq s k hlt, hl]; rfl
        go_wp2_with (first | (go_at_call 129; refine (l00Letter_any _ _).mono ?_; rintro e w' ⟨rfl, rfl⟩) | (go_at_call 130; refine (l00Digit_any _ _).mono ?_; rintro e w' ⟨rfl, rfl⟩))
        go_round
        case rel => exact ⟨k + 1, by omega, by omega, by go_num, fun j hj => by by_cases e : j = k; (subst e; exact hk.out); exact hall.out j (by omega)⟩
        case measure => simp [intOf]; omega
    · have hn : Hid (nameB s = true) := name_yes s (by omega) (by omega) (fun j hj => hall.out j (by omega))
      go_wp2
      go_ret
      exact ⟨ret_bool hn.out.symm, rfl⟩

theorem specNameOK_any (s : ByteArray) (w : World) (hs : s.size ≤ maxLen) :
    Calls Tryz.prog 103 #[.string s] w fun e w' => e = .returned (.bool (nameB s)) ∧ w' = w := by
  go_enter Tryz.func103, Tryz.ntmps103
  go_wp2_with (go_at_call 121; refine (l00Word_any _ _ hs).mono ?_; rintro e w' ⟨rfl, rfl⟩)
  go_ret
  exact ⟨rfl, rfl⟩

theorem runes (s : ByteArray) (k : Nat) (h : k < s.size) :
    (Utf8.decode s k = ((s[k]'h).toNat, 1) ∧ ((s[k]'h).toNat : Int) < 128) ∨ (128 ≤ ((Utf8.decode s k).1 : Int) ∧ 128 ≤ ((s[k]'h).toNat : Int)) := by
  by_cases ha : (s[k]'h).toNat < 128
  · exact .inl ⟨decode_ascii s k h ha, by omega⟩
  · exact .inr ⟨by have := (decode_high s k h (by omega)).1; omega, by omega⟩
theorem let_high (n : Int) (h : 128 ≤ n) : letB n = false := by unfold letB; simp; omega
theorem dig_high (n : Int) (h : 128 ≤ n) : digB n = false := by unfold digB; simp; omega

set_option maxHeartbeats 400000 in
theorem implNameOK_any (s : ByteArray) (w : World) (hs : s.size ≤ maxLen) :
    Calls Tryz.prog 108 #[.string s] w fun e w' => e = .returned (.bool (nameB s)) ∧ Below w.heap.size w w' := by
  unfold maxLen at hs
  by_cases h0 : s.size = 0
  · have hn := name_small s (.inl h0)
    have h1 : ((s.size : Int) == 0) = true := beq_iff_eq.2 (by omega)
    go_enter Tryz.func108, Tryz.ntmps108
    go_wp2
    go_ret
    exact ⟨ret_bool hn.symm, Below.refl _ _⟩
  have h1 : ((s.size : Int) == 0) = false := beq_eq_false_iff_ne.2 (by omega)
  by_cases h4 : 40 < s.size
  · have hn := name_small s (.inr h4)
    have h2 : (40 : Int) < (s.size : Int) := by omega
    go_enter Tryz.func108, Tryz.ntmps108
    go_wp2
    go_ret
    exact ⟨ret_bool hn.symm, Below.refl _ _⟩
  have hp : 0 < s.size := by omega
  have h2 : (s.size : Int) ≤ 40 := by omega
  go_enter Tryz.func108, Tryz.ntmps108
  go_wp2
  go_loopw [] (fun w' => ∃ k : Nat, k ≤ s.size ∧ w' = w.iter s k ∧ Hid (∀ j, j < k → okAt s j = true)) (fun w' => s.size - w'.iterPos w.heap.size)
  case atStart => exact ⟨0, Nat.zero_le _, rfl, fun j hj => absurd hj (by omega)⟩
  case round =>
    obtain ⟨k, hk2, rfl, hall⟩ := hrel
    by_cases hlt : k < s.size
    · rcases runes s k hlt with ⟨hdec, hlow⟩ | ⟨hdec, hhigh⟩
      · have hnx : ∀ ty, (Instr.next (.pointer (some ⟨w.heap.size, 0, none⟩)) true ty).run Tryz.prog (w.iter s k) = _ := fun ty => run_next_ascii w s k ty hlt (by omega)
        clear hdec
        cases hl : letB ((s[k]'hlt).toNat : Int)
        · by_cases hz : k = 0
          · subst hz
            have hn : Hid (nameB s = false) := name_no s 0 hlt (by rw [okAt_eq s 0 hlt, hl]; rfl)
            go_wp2_with (first | (go_at_call 123; refine (isLetter_any _ _).mono ?_; rintro e w' ⟨rfl, rfl⟩) | (go_at_call 124; refine (isDigit_any _ _).mono ?_; rintro e w' ⟨rfl, rfl⟩))
            go_ret
            exact ⟨ret_bool hn.out.symm, (Below.refl _ _).alloc (Nat.le_refl _) _⟩
          have hz' : ((k : Int) == 0) = false := beq_eq_false_iff_ne.2 (by omega)
          cases hd : digB ((s[k]'hlt).toNat : Int)
          · have hn : Hid (nameB s = false) := name_no s k hlt (by rw [okAt_eq s k hlt, hl, hd]; simp)
            go_wp2_with (first | (go_at_call 123; refine (isLetter_any _ _).mono ?_; rintro e w' ⟨rfl, rfl⟩) | (go_at_call 124; refine (isDigit_any _ _).mono ?_; rintro e w' ⟨rfl, rfl⟩))
            go_ret
            exact ⟨ret_bool hn.out.symm, (Below.refl _ _).alloc (Nat.le_refl _) _⟩
          · have hk : Hid (okAt s k = true) := by show okAt s k = true; rw [okAt_eq s k hlt, hl, hd]; simp; omega
            go_wp2_with (first | (go_at_call 123; refine (isLetter_any _ _).mono ?_; rintro e w' ⟨rfl, rfl⟩) | (go_at_call 124; refine (isDigit_any _ _).mono ?_; rintro e w' ⟨rfl, rfl⟩))
            go_roundw
            case rel => exact ⟨k + 1, by omega, rfl, fun j hj => by by_cases e : j = k; (subst e; exact hk.out); exact hall.out j (by omega)⟩
            case measure => simp; omega
        · have hk : Hid (okAt s k = true) := by show okAt s k = true; rw [okAt_eq s k hlt, hl]; rfl
          go_wp2_with (first | (go_at_call 123; refine (isLetter_any _ _).mono ?_; rintro e w' ⟨rfl, rfl⟩) | (go_at_call 124; refine (isDigit_any _ _).mono ?_; rintro e w' ⟨rfl, rfl⟩))
          go_roundw
          case rel => exact ⟨k + 1, by omega, rfl, fun j hj => by by_cases e : j = k; (subst e; exact hk.out); exact hall.out j (by omega)⟩
          case measure => simp; omega
      · have hnx : ∀ ty, (Instr.next (.pointer (some ⟨w.heap.size, 0, none⟩)) true ty).run Tryz.prog (w.iter s k) = _ := fun ty => run_next_any w s k ty hlt
        have hn : Hid (nameB s = false) := name_no s k hlt (by rw [okAt_eq s k hlt, let_high _ hhigh, dig_high _ hhigh]; simp)
        have hl := let_high _ hdec
        have hd := dig_high _ hdec
        by_cases hz : k = 0
        · subst hz
          go_wp2_with (first | (go_at_call 123; refine (isLetter_any _ _).mono ?_; rintro e w' ⟨rfl, rfl⟩) | (go_at_call 124; refine (isDigit_any _ _).mono ?_; rintro e w' ⟨rfl, rfl⟩))
          go_ret
          exact ⟨ret_bool hn.out.symm, (Below.refl _ _).alloc (Nat.le_refl _) _⟩
        have hz' : ((k : Int) == 0) = false := beq_eq_false_iff_ne.2 (by omega)
        go_wp2_with (first | (go_at_call 123; refine (isLetter_any _ _).mono ?_; rintro e w' ⟨rfl, rfl⟩) | (go_at_call 124; refine (isDigit_any _ _).mono ?_; rintro e w' ⟨rfl, rfl⟩))
        go_ret
        exact ⟨ret_bool hn.out.symm, (Below.refl _ _).alloc (Nat.le_refl _) _⟩
    · have hn : Hid (nameB s = true) := name_yes s (by omega) (by omega) (fun j hj => hall.out j (by omega))
      have hnx : ∀ ty, (Instr.next (.pointer (some ⟨w.heap.size, 0, none⟩)) true ty).run Tryz.prog (w.iter s k) = _ := fun ty => run_next_end w s k ty hlt
      go_wp2
      go_ret
      exact ⟨ret_bool hn.out.symm, (Below.refl _ _).alloc (Nat.le_refl _) _⟩
end Go.Proofs.YtiflfcpoajijaaaGreatDoor.Nm

/- Requests: what both RequestOK functions answer, and their helpers. -/
namespace Go.Proofs.YtiflfcpoajijaaaGreatDoor.Rq
open Go.RowKit

def inB (x a b : Int) : Bool := decide (a ≤ x ∧ x ≤ b)
theorem ret_bool {a b : Bool} (h : a = b) : Ending.returned (.bool a) = .returned (.bool b) := by rw [h]
theorem within_any (x a b : Int) (w : World) :
    Calls Tryz.prog 62 #[.int .i64 x, .int .i64 a, .int .i64 b] w fun e w' => e = .returned (.bool (inB x a b)) ∧ w' = w := by
  by_cases h1 : a ≤ x
  · by_cases h2 : x ≤ b
    all_goals
      go_enter Tryz.func62, Tryz.ntmps62
      go_wp2
      go_ret
      exact ⟨ret_bool (by unfold inB; rw [Bool.eq_iff_iff]; simp; try omega), rfl⟩
  · go_enter Tryz.func62, Tryz.ntmps62
    go_wp2
    go_ret
    exact ⟨ret_bool (by unfold inB; rw [Bool.eq_iff_iff]; simp; try omega), rfl⟩
theorem l01In_any (x a b : Int) (w : World) :
    Calls Tryz.prog 44 #[.int .i64 x, .int .i64 a, .int .i64 b] w fun e w' => e = .returned (.bool (inB x a b)) ∧ w' = w := by
  by_cases h1 : a ≤ x
  · by_cases h2 : x ≤ b
    all_goals
      go_enter Tryz.func44, Tryz.ntmps44
      go_wp2
      go_ret
      exact ⟨ret_bool (by unfold inB; rw [Bool.eq_iff_iff]; simp; try omega), rfl⟩
  · go_enter Tryz.func44, Tryz.ntmps44
    go_wp2
    go_ret
    exact ⟨ret_bool (by unfold inB; rw [Bool.eq_iff_iff]; simp; try omega), rfl⟩

def opB (n : ByteArray) : Bool := decide (n.size ≤ 12) && Nm.nameB n
theorem opNameOK_any (n : ByteArray) (w : World) (hs : n.size ≤ maxLen) :
    Calls Tryz.prog 82 #[.string n] w fun e w' => e = .returned (.bool (opB n)) ∧ Below w.heap.size w w' := by
  by_cases h : n.size ≤ 12
  · have h1 : (n.size : Int) ≤ 12 := by omega
    have HO : Hid (opB n = Nm.nameB n) := by show opB n = Nm.nameB n; unfold opB; simp [h]
    go_enter Tryz.func82, Tryz.ntmps82
    go_wp2_with (go_at_call 108; refine (Nm.implNameOK_any _ _ hs).mono ?_; rintro e w' ⟨rfl, hb⟩)
    go_ret
    exact ⟨ret_bool HO.out.symm, hb⟩
  · have h1 : (12 : Int) < (n.size : Int) := by omega
    have HO : Hid (opB n = false) := by show opB n = false; unfold opB; simp [h]
    go_enter Tryz.func82, Tryz.ntmps82
    go_wp2
    go_ret
    exact ⟨ret_bool HO.out.symm, Below.refl _ _⟩
theorem l02Text_any (n : ByteArray) (w : World) (hs : n.size ≤ maxLen) :
    Calls Tryz.prog 71 #[.string n, .int .i64 12] w fun e w' => e = .returned (.bool (opB n)) ∧ w' = w := by
  cases h : inB (n.size : Int) 1 12
  · have HO : Hid (opB n = false) := by
      show opB n = false
      unfold inB at h
      unfold opB Nm.nameB
      simp at h ⊢
      omega
    go_enter Tryz.func71, Tryz.ntmps71
    go_wp2_with (go_at_call 44; refine (l01In_any _ _ _ _).mono ?_; rintro e w' ⟨rfl, rfl⟩)
    go_ret
    exact ⟨ret_bool HO.out.symm, rfl⟩
  · have HO : Hid (opB n = Nm.nameB n) := by
      show opB n = Nm.nameB n
      unfold inB at h
      unfold opB
      simp at h ⊢
      omega
    go_enter Tryz.func71, Tryz.ntmps71
    go_wp2_with (first | (go_at_call 44; refine (l01In_any _ _ _ _).mono ?_; rintro e w' ⟨rfl, rfl⟩) | (go_at_call 103; refine (Nm.specNameOK_any _ _ hs).mono ?_; rintro e w' ⟨rfl, rfl⟩))
    go_ret
    exact ⟨ret_bool HO.out.symm, rfl⟩

end Go.Proofs.YtiflfcpoajijaaaGreatDoor.Rq

/- From arguments as the row opens them to what the walks ask: structs by value. -/
namespace Go.Proofs.YtiflfcpoajijaaaGreatDoor.Op
open Go.ChangeShapes Go.WideShapes Go.ChangeAt Go.RowKit Go.Deep

section
variable {H : Type} {enc : TypeId × Value → H} {P : Program} {w : World} {base : Nat} {spare : Nat → Bool} {held : Bool}
/-- A struct of one-cell fields, by value: its cells, each with its reading. -/
theorem open_cells {r : Reach} {b0 : Nat} {t : TypeId} {fs : Array Field} {v : Value} {d : DataW H} {p : List MemPlace} (hs : P.underlying t = some (.struct fs)) (hone : oneCellFields P fs = true)
    (hv : Value.okWide P w r b0 t v) (h : DataW.Trod enc P w base spare held t v d p) :
    ∃ cs : Array Value, v = .agg cs ∧ cs.size = P.cellsOf t ∧ ∀ (i : Nat) (f : Field) (c : Value), fs[i]? = some f → cs[i]? = some c → ∃ n y, DataW.trod enc P w base spare held n f.type [c] = some y := by
  obtain ⟨cs, rfl, hsz⟩ := okWide_struct hs hv
  obtain ⟨fuel, hf⟩ := h
  obtain ⟨xs, n, _, _, hl, hlen, hfs⟩ := DataW.trod_struct hs hf
  refine ⟨cs, rfl, hsz, fun i f c hi hc => ?_⟩
  obtain ⟨o, k⟩ := hone_of hone i f hi
  have h1 := hfs i f hi
  have hix : i < xs.length := by rw [hlen]; exact (Array.getElem?_eq_some_iff.1 hi).1
  rw [List.getElem?_eq_getElem hix, o, k] at h1
  have h2 : (((Value.agg cs).cells.toList).drop i).take 1 = [c] := by
    have h3 : cs.toList[i]? = some c := by simpa using hc
    have hlt : i < cs.toList.length := (List.getElem?_eq_some_iff.1 h3).1
    rw [show (Value.agg cs).cells = cs from rfl, List.drop_eq_getElem_cons hlt, (List.getElem?_eq_some_iff.1 h3).2]
    rfl
  rw [h2] at h1
  exact ⟨n, _, h1⟩
theorem cell_int {k : IntKind} {t : TypeId} {c : Value} (ht : P.underlying t = some (.int k)) (h : ∃ n y, DataW.trod enc P w base spare held n t [c] = some y) : ∃ a, c = .int k a ∧ (Lit.int k a).wf = true := by
  obtain ⟨n, y, h⟩ := h
  obtain ⟨a, h1, _, h2⟩ := DataW.trod_int ht h
  exact ⟨a, by simpa using h1, h2⟩
theorem cell_string {t : TypeId} {c : Value} (ht : P.underlying t = some .string) (h : ∃ n y, DataW.trod enc P w base spare held n t [c] = some y) : ∃ s : ByteArray, c = .string s ∧ s.size ≤ maxLen := by
  obtain ⟨n, y, h⟩ := h
  obtain ⟨s, h1, _, h2⟩ := DataW.trod_string ht h
  exact ⟨s, by simpa using h1, h2⟩
end
theorem i64_bounds {a : Int} (h : (Lit.int .i64 a).wf = true) : -9223372036854775808 ≤ a ∧ a ≤ 9223372036854775807 := by
  simpa [Lit.wf, IntKind.min, IntKind.max, IntKind.signed, IntKind.bits] using h
end Go.Proofs.YtiflfcpoajijaaaGreatDoor.Op

/- Grants: right ones (both GrantOK functions), the laws' helpers of one grant, openings. -/
namespace Go.Proofs.YtiflfcpoajijaaaGreatDoor.Gr12
open Go.RowKit
open Go.Proofs.YtiflfcpoajijaaaGreatDoor.Rq (inB opB within_any l01In_any opNameOK_any l02Text_any ret_bool)

def gV (g : Gg) : Value := .agg #[.string g.nm, .int .i64 g.hd, .int .i64 g.tk, .int .i64 g.ex]
def grB (g : Gg) : Bool := opB g.nm && (inB g.hd 0 255 && (inB g.tk 1 1000000 && inB g.ex 0 2000000000))
theorem in_iff {x a b : Int} (h : inB x a b = true) : a ≤ x ∧ x ≤ b := by unfold inB at h; simpa using h
theorem grB_parts {g : Gg} (h : grB g = true) : opB g.nm = true ∧ (0 ≤ g.hd ∧ g.hd ≤ 255) ∧ (1 ≤ g.tk ∧ g.tk ≤ 1000000) ∧ (0 ≤ g.ex ∧ g.ex ≤ 2000000000) := by
  unfold grB at h
  simp only [Bool.and_eq_true] at h
  exact ⟨h.1, in_iff h.2.1, in_iff h.2.2.1, in_iff h.2.2.2⟩
theorem nmd_of {n : ByteArray} (h : opB n = true) : Nmd n.data.toList ∧ n.size ≤ 12 := by
  unfold opB Nm.nameB at h
  simp only [Bool.and_eq_true, decide_eq_true_eq] at h
  obtain ⟨h12, h1, _, hall⟩ := h
  have hl : n.data.toList.length = n.size := by simp
  refine ⟨⟨fun e => by rw [e] at hl; simp at hl; omega, fun b hb => ?_⟩, h12⟩
  obtain ⟨i, hi, e⟩ := List.getElem_of_mem hb
  have := hall i (by omega)
  unfold Nm.okAt at this
  have e2 : n.data.toList.getD i 0 = b := by rw [List.getD_eq_getElem?_getD, List.getElem?_eq_getElem hi, e]; rfl
  rw [e2] at this
  simp only [Bool.or_eq_true, Bool.and_eq_true] at this
  rcases this with h | ⟨_, h⟩
  · left; unfold Nm.letB at h; unfold letU; rw [decide_eq_true_eq] at h ⊢; omega
  · right; unfold Nm.digB at h; unfold isD; rw [decide_eq_true_eq] at h; simp; omega
theorem grB_ok : ∀ g, grB g = true → Nmd g.nm.data.toList ∧ Rng g.hd g.tk g.ex := fun g h => by
  obtain ⟨h1, h2, h3, h4⟩ := grB_parts h
  exact ⟨(nmd_of h1).1, by unfold Rng; omega⟩
theorem bel1 (w : World) (o : Obj) : Below w.heap.size w (w.alloc o) := (Below.refl _ _).alloc (Nat.le_refl _) _
set_option maxRecDepth 100000 in
set_option maxHeartbeats 1600000 in
theorem implGrantOK_any (g : Gg) (w : World) (hs : g.nm.size ≤ maxLen) :
    Calls Tryz.prog 53 #[gV g] w fun e w' => e = .returned (.bool (grB g)) ∧ Below w.heap.size w w' := by
  unfold gV
  have HB : Hid (∀ W, Below (w.alloc (.cells #[.string g.nm, .int .i64 g.hd, .int .i64 g.tk, .int .i64 g.ex] 24)).heap.size (w.alloc (.cells #[.string g.nm, .int .i64 g.hd, .int .i64 g.tk, .int .i64 g.ex] 24)) W → (W.cell? ⟨w.heap.size, 1, none⟩ = some (.int .i64 g.hd) ∧ W.cell? ⟨w.heap.size, 2, none⟩ = some (.int .i64 g.tk) ∧ W.cell? ⟨w.heap.size, 3, none⟩ = some (.int .i64 g.ex)) ∧ Below w.heap.size w W) := fun W hW => by
    have h1 := (hW.block w.heap.size (by simp)).trans (heap_alloc_new w _)
    exact ⟨⟨by simp [World.cell?, h1], by simp [World.cell?, h1], by simp [World.cell?, h1]⟩, (bel1 w _).trans (hW.mono (by simp))⟩
  have HN := opNameOK_any g.nm (w.alloc (.cells #[.string g.nm, .int .i64 g.hd, .int .i64 g.tk, .int .i64 g.ex] 24)) hs
  cases h0 : opB g.nm with
  | false =>
    have HE : Hid (grB g = false) := by show _ = _; unfold grB; rw [h0]; rfl
    rw [h0] at HN
    go_enter Tryz.func53, Tryz.ntmps53
    go_wp2_with (first | (go_at_call 82; refine HN.mono ?_; rintro e w1 ⟨rfl, b1⟩; obtain ⟨⟨y1, y2, y3⟩, g1⟩ := HB.out w1 b1))
    go_ret
    exact ⟨ret_bool HE.out.symm, g1⟩
  | true =>
    cases h1 : inB g.hd 0 255 with
    | false =>
      have HE : Hid (grB g = false) := by show _ = _; unfold grB; rw [h0, h1]; rfl
      rw [h0] at HN
      go_enter Tryz.func53, Tryz.ntmps53
      go_wp2_with (first | (go_at_call 82; refine HN.mono ?_; rintro e w1 ⟨rfl, b1⟩; obtain ⟨⟨y1, y2, y3⟩, g1⟩ := HB.out w1 b1) | (go_at_call 62; refine (within_any _ _ _ _).mono ?_; rintro e w2 ⟨rfl, rfl⟩; first | rw [h1]))
      go_ret
      exact ⟨ret_bool HE.out.symm, g1⟩
    | true =>
      cases h2 : inB g.tk 1 1000000 with
      | false =>
        have HE : Hid (grB g = false) := by show _ = _; unfold grB; rw [h0, h1, h2]; rfl
        rw [h0] at HN
        go_enter Tryz.func53, Tryz.ntmps53
        go_wp2_with (first | (go_at_call 82; refine HN.mono ?_; rintro e w1 ⟨rfl, b1⟩; obtain ⟨⟨y1, y2, y3⟩, g1⟩ := HB.out w1 b1) | (go_at_call 62; refine (within_any _ _ _ _).mono ?_; rintro e w2 ⟨rfl, rfl⟩; first | rw [h1] | rw [h2]))
        go_ret
        exact ⟨ret_bool HE.out.symm, g1⟩
      | true =>
        cases h3 : inB g.ex 0 2000000000 with
        | false =>
          have HE : Hid (grB g = false) := by show _ = _; unfold grB; rw [h0, h1, h2, h3]; rfl
          rw [h0] at HN
          go_enter Tryz.func53, Tryz.ntmps53
          go_wp2_with (first | (go_at_call 82; refine HN.mono ?_; rintro e w1 ⟨rfl, b1⟩; obtain ⟨⟨y1, y2, y3⟩, g1⟩ := HB.out w1 b1) | (go_at_call 62; refine (within_any _ _ _ _).mono ?_; rintro e w2 ⟨rfl, rfl⟩; first | rw [h1] | rw [h2] | rw [h3]))
          go_ret
          exact ⟨ret_bool HE.out.symm, g1⟩
        | true =>
          have HE : Hid (grB g = true) := by show _ = _; unfold grB; rw [h0, h1, h2, h3]; rfl
          rw [h0] at HN
          go_enter Tryz.func53, Tryz.ntmps53
          go_wp2_with (first | (go_at_call 82; refine HN.mono ?_; rintro e w1 ⟨rfl, b1⟩; obtain ⟨⟨y1, y2, y3⟩, g1⟩ := HB.out w1 b1) | (go_at_call 62; refine (within_any _ _ _ _).mono ?_; rintro e w2 ⟨rfl, rfl⟩; first | rw [h1] | rw [h2] | rw [h3]))
          go_ret
          exact ⟨ret_bool HE.out.symm, g1⟩
set_option maxRecDepth 100000 in
set_option maxHeartbeats 1600000 in
theorem specGrantOK_any (g : Gg) (w : World) (hs : g.nm.size ≤ maxLen) :
    Calls Tryz.prog 38 #[gV g] w fun e w' => e = .returned (.bool (grB g)) ∧ Below w.heap.size w w' := by
  unfold gV
  have HB : Hid (∀ W, Below (w.alloc (.cells #[.string g.nm, .int .i64 g.hd, .int .i64 g.tk, .int .i64 g.ex] 24)).heap.size (w.alloc (.cells #[.string g.nm, .int .i64 g.hd, .int .i64 g.tk, .int .i64 g.ex] 24)) W → (W.cell? ⟨w.heap.size, 1, none⟩ = some (.int .i64 g.hd) ∧ W.cell? ⟨w.heap.size, 2, none⟩ = some (.int .i64 g.tk) ∧ W.cell? ⟨w.heap.size, 3, none⟩ = some (.int .i64 g.ex)) ∧ Below w.heap.size w W) := fun W hW => by
    have h1 := (hW.block w.heap.size (by simp)).trans (heap_alloc_new w _)
    exact ⟨⟨by simp [World.cell?, h1], by simp [World.cell?, h1], by simp [World.cell?, h1]⟩, (bel1 w _).trans (hW.mono (by simp))⟩
  have HN : Calls Tryz.prog 71 #[.string g.nm, .int .i64 12] (w.alloc (.cells #[.string g.nm, .int .i64 g.hd, .int .i64 g.tk, .int .i64 g.ex] 24)) fun e w' => e = .returned (.bool (opB g.nm)) ∧ Below (w.alloc (.cells #[.string g.nm, .int .i64 g.hd, .int .i64 g.tk, .int .i64 g.ex] 24)).heap.size (w.alloc (.cells #[.string g.nm, .int .i64 g.hd, .int .i64 g.tk, .int .i64 g.ex] 24)) w' := (l02Text_any g.nm _ hs).mono fun e w' ⟨h1, h2⟩ => ⟨h1, by rw [h2]; exact Below.refl _ _⟩
  cases h0 : opB g.nm with
  | false =>
    have HE : Hid (grB g = false) := by show _ = _; unfold grB; rw [h0]; rfl
    rw [h0] at HN
    go_enter Tryz.func38, Tryz.ntmps38
    go_wp2_with (first | (go_at_call 71; refine HN.mono ?_; rintro e w1 ⟨rfl, b1⟩; obtain ⟨⟨y1, y2, y3⟩, g1⟩ := HB.out w1 b1))
    go_ret
    exact ⟨ret_bool HE.out.symm, g1⟩
  | true =>
    cases h1 : inB g.hd 0 255 with
    | false =>
      have HE : Hid (grB g = false) := by show _ = _; unfold grB; rw [h0, h1]; rfl
      rw [h0] at HN
      go_enter Tryz.func38, Tryz.ntmps38
      go_wp2_with (first | (go_at_call 71; refine HN.mono ?_; rintro e w1 ⟨rfl, b1⟩; obtain ⟨⟨y1, y2, y3⟩, g1⟩ := HB.out w1 b1) | (go_at_call 44; refine (l01In_any _ _ _ _).mono ?_; rintro e w2 ⟨rfl, rfl⟩; first | rw [h1]))
      go_ret
      exact ⟨ret_bool HE.out.symm, g1⟩
    | true =>
      cases h2 : inB g.tk 1 1000000 with
      | false =>
        have HE : Hid (grB g = false) := by show _ = _; unfold grB; rw [h0, h1, h2]; rfl
        rw [h0] at HN
        go_enter Tryz.func38, Tryz.ntmps38
        go_wp2_with (first | (go_at_call 71; refine HN.mono ?_; rintro e w1 ⟨rfl, b1⟩; obtain ⟨⟨y1, y2, y3⟩, g1⟩ := HB.out w1 b1) | (go_at_call 44; refine (l01In_any _ _ _ _).mono ?_; rintro e w2 ⟨rfl, rfl⟩; first | rw [h1] | rw [h2]))
        go_ret
        exact ⟨ret_bool HE.out.symm, g1⟩
      | true =>
        cases h3 : inB g.ex 0 2000000000 with
        | false =>
          have HE : Hid (grB g = false) := by show _ = _; unfold grB; rw [h0, h1, h2, h3]; rfl
          rw [h0] at HN
          go_enter Tryz.func38, Tryz.ntmps38
          go_wp2_with (first | (go_at_call 71; refine HN.mono ?_; rintro e w1 ⟨rfl, b1⟩; obtain ⟨⟨y1, y2, y3⟩, g1⟩ := HB.out w1 b1) | (go_at_call 44; refine (l01In_any _ _ _ _).mono ?_; rintro e w2 ⟨rfl, rfl⟩; first | rw [h1] | rw [h2] | rw [h3]))
          go_ret
          exact ⟨ret_bool HE.out.symm, g1⟩
        | true =>
          have HE : Hid (grB g = true) := by show _ = _; unfold grB; rw [h0, h1, h2, h3]; rfl
          rw [h0] at HN
          go_enter Tryz.func38, Tryz.ntmps38
          go_wp2_with (first | (go_at_call 71; refine HN.mono ?_; rintro e w1 ⟨rfl, b1⟩; obtain ⟨⟨y1, y2, y3⟩, g1⟩ := HB.out w1 b1) | (go_at_call 44; refine (l01In_any _ _ _ _).mono ?_; rintro e w2 ⟨rfl, rfl⟩; first | rw [h1] | rw [h2] | rw [h3]))
          go_ret
          exact ⟨ret_bool HE.out.symm, g1⟩
set_option maxRecDepth 100000 in
set_option maxHeartbeats 1600000 in
theorem toG_any (g : Gg) (w : World) :
    Calls Tryz.prog 17 #[gV g] w fun e w' => e = .returned (gV g) ∧ Below w.heap.size w w' := by
  unfold gV
  go_enter Tryz.func17, Tryz.ntmps17
  go_wp2_with fail
  refine bodyPost_ret (v := .agg #[.string g.nm, .int .i64 g.hd, .int .i64 g.tk, .int .i64 g.ex]) (by simp [results, Tryz.results17, go_sem]) rfl ⟨rfl, ?_⟩
  exact (((Below.refl _ _).alloc (Nat.le_refl _) _).alloc (by simp) _).alloc (by simp; omega) _
set_option maxRecDepth 100000 in
set_option maxHeartbeats 1600000 in
theorem szG_any (g : Gg) (l : Nat) (w : World) (hl : l ≤ 1048576) (hz : g.nm.size ≤ maxLen) :
    Calls Tryz.prog 15 #[gV g, .int .i64 l] w fun e w' => (∃ r : Int, e = .returned (.int .i64 r) ∧ (r = -1 ∨ ∃ q : Nat, r = q ∧ q ≤ l ∧ g.nm.size ≤ l)) ∧ Below w.heap.size w w' := by
  unfold maxLen at hz
  unfold gV
  by_cases g0 : (l : Int) < (g.nm.size : Int)
  · go_enter Tryz.func15, Tryz.ntmps15
    go_wp2_with fail
    go_ret
    exact ⟨⟨_, rfl, .inl rfl⟩, bel1 _ _⟩
  go_enter Tryz.func15, Tryz.ntmps15
  go_wp2_with fail
  go_ret
  exact ⟨⟨_, rfl, .inr ⟨l - g.nm.size, by omega, by omega, by omega⟩⟩, bel1 _ _⟩
set_option maxRecDepth 100000 in
set_option maxHeartbeats 1600000 in
theorem eqG_same (g : Gg) (w : World) :
    Calls Tryz.prog 46 #[gV g, gV g] w fun e w' => e = .returned (.bool true) ∧ Below w.heap.size w w' := by
  have q0' : (g.nm.toList != g.nm.toList) = false := by simp
  have q1 : (g.hd != g.hd) = false := by simp
  have q2 : (g.tk != g.tk) = false := by simp
  have q3 : (g.ex != g.ex) = false := by simp
  unfold gV
  go_enter Tryz.func46, Tryz.ntmps46
  go_wp2_with fail
  go_ret
  exact ⟨rfl, ((Below.refl _ _).alloc (Nat.le_refl _) _).alloc (by simp) _⟩
end Go.Proofs.YtiflfcpoajijaaaGreatDoor.Gr12
namespace Go.Proofs.YtiflfcpoajijaaaGreatDoor.Op
open Go.ChangeShapes Go.WideShapes Go.ChangeAt Go.RowKit Go.Deep
theorem cellsGrant : Tryz.prog.cellsOf 45 = 4 := by kernel_rfl
theorem array4g {α : Type} {cs : Array α} (h : cs.size = 4) : ∃ c0 c1 c2 c3, cs = #[c0, c1, c2, c3] := by
  obtain ⟨l⟩ := cs
  match l, h with
  | [c0, c1, c2, c3], _ => exact ⟨c0, c1, c2, c3, rfl⟩
set_option maxRecDepth 100000 in
theorem open_grant {H : Type} {enc : TypeId × Value → H} {w : World} {base : Nat} {spare : Nat → Bool} {held : Bool} {r : Reach} {b0 : Nat} {v : Value} {d : DataW H} {p : List MemPlace}
    (hv : Value.okWide Tryz.prog w r b0 45 v) (h : DataW.Trod enc Tryz.prog w base spare held 45 v d p) :
    ∃ g : Gr12.Gg, v = Gr12.gV g ∧ g.nm.size ≤ maxLen := by
  obtain ⟨cs, rfl, hsz, hf⟩ := open_cells Tryz.underlying45 (by kernel_rfl) hv h
  obtain ⟨c0, c1, c2, c3, rfl⟩ := array4g (hsz.trans cellsGrant)
  obtain ⟨s, rfl, hs⟩ := cell_string Tryz.underlying9 (hf 0 _ _ rfl rfl)
  obtain ⟨a1, rfl, _⟩ := cell_int Tryz.underlying3 (hf 1 _ _ rfl rfl)
  obtain ⟨a2, rfl, _⟩ := cell_int Tryz.underlying3 (hf 2 _ _ rfl rfl)
  obtain ⟨a3, rfl, _⟩ := cell_int Tryz.underlying3 (hf 3 _ _ rfl rfl)
  exact ⟨⟨s, a1, a2, a3⟩, rfl, hs⟩
end Go.Proofs.YtiflfcpoajijaaaGreatDoor.Op

/- A strings.Builder that the call has made: what is written, what it tells. -/
namespace Go.Proofs.YtiflfcpoajijaaaGreatDoor.Bd12
open Go.Shelf Go.RowKit

/-- The builder in block b (the call's own: from B on) holds these bytes. -/
def Bu (w : World) (B b : Nat) (l : List UInt8) : Prop := Lib.IsBuilder 103 5 B b (Lib.byteCells l) w
theorem at_up {w w' : World} {B b : Nat} {p : Value} {bs : List Value} (h : Lib.BuilderAt 103 5 B b p bs w) (hb : Below w.heap.size w w') : Lib.BuilderAt 103 5 B b p bs w' := by
  have hlt := h.lt
  obtain ⟨h1, v, h2, h3, h4⟩ := h
  refine ⟨h1, v, (hb.block b hlt).trans h2, ⟨h3.1, ?_⟩, h4⟩
  rcases h3.2 with h | ⟨g, cap, cur, e1, e2, e3, e4⟩
  · exact .inl h
  · exact .inr ⟨g, cap, cur, e1, e2, (hb.block g (Array.getElem?_eq_some_iff.1 e3).1).trans e3, e4⟩
theorem Bu.up {w w' : World} {B b : Nat} {l : List UInt8} (h : Bu w B b l) (hb : Below w.heap.size w w') : Bu w' B b l := by
  rcases h with h | h
  · exact .inl (at_up h hb)
  · exact .inr (at_up h hb)
theorem Bu.new (w : World) : Bu (w.alloc (.cells #[.pointer none, .slice none 0 0] 103)) w.heap.size w.heap.size [] := Lib.fresh_isBuilder _ _ w
theorem write_any (B b : Nat) (l : List UInt8) (s : ByteArray) (w : World) (h : Bu w B b l) (hl : l.length ≤ 1000000) (hs : s.size ≤ 1000000) (hB : B ≤ w.heap.size) :
    Calls Tryz.prog 83 #[.pointer (some ⟨b, 0, none⟩), .string s] w fun e w' => e = .returned (.tuple #[.int .i64 s.size, .nilIface]) ∧ Bu w' B b (l ++ s.data.toList) ∧ Below B w w' := by
  have hlen : (Lib.byteCells l).length = l.length := by unfold Lib.byteCells; simp
  have hc := Any.Builder_WriteString { Sf.lays156 with } Sf.extra156 B b (Lib.byteCells l) s w h (by rw [hlen]; omega) hB
  refine hc.mono fun e w' ⟨he, h1, h2⟩ => ⟨he, .inr ?_, h2⟩
  have e1 : Lib.byteCells l ++ Lib.strCells s = Lib.byteCells (l ++ s.data.toList) := by unfold Lib.byteCells Lib.strCells; simp [List.map_append]
  rw [e1] at h1
  exact h1
theorem string_any (B b : Nat) (l : List UInt8) (w : World) (h : Bu w B b l) (hB : B ≤ w.heap.size) :
    Calls Tryz.prog 85 #[.pointer (some ⟨b, 0, none⟩)] w fun e w' => e = .returned (.string ⟨l.toArray⟩) ∧ Below B w w' :=
  Any.Builder_String_any { Sf.lays156 with } Sf.extra156 B b l w h hB
end Go.Proofs.YtiflfcpoajijaaaGreatDoor.Bd12

/- Grants' texts: digits, the texts of both sides, both GrantText functions. -/
namespace Go.Proofs.YtiflfcpoajijaaaGreatDoor.Gr12
open Go.RowKit Go.Sort Go.Proofs.YtiflfcpoajijaaaGreatDoor.Bd12 Go.Proofs.YtiflfcpoajijaaaGreatDoor.Ap
open Go.Lib (decDigits itoa)
open Go.Proofs.YtiflfcpoajijaaaGreatDoor.Rq (inB opB ret_bool)

/-- The table of powers of ten is as it is laid. -/
def PTab (w : World) : Prop := Lib.TabIs Tryz.prog w "internal/strconv.uint64pow10" .u64 Lib.pow10Tab
theorem PTab.below {w w' : World} (h : PTab w) (hb : Below w.heap.size w w') : PTab w' := Lib.tabBelow_of_tabIs h w' hb
theorem ret_str {a b : ByteArray} (h : a = b) : Ending.returned (.string a) = .returned (.string b) := by rw [h]
theorem grow_below (w : World) (k : Nat) (os : Array Obj) : Below w.heap.size w (grow (w.drewN k) os) := by
  refine ⟨rfl, rfl, rfl, by simp [grow, World.drewN], fun b hb => ?_⟩
  simp [grow, World.drewN, Array.getElem?_append, hb]
theorem itoa_any (n : Int) (h0 : -9223372036854775808 ≤ n) (h1 : n ≤ 9223372036854775807) (w : World) (ht : PTab w) :
    Calls Tryz.prog 84 #[.int .i64 n] w fun e w' => e = .returned (.string (baL (itoa n))) ∧ Below w.heap.size w w' :=
  (Sf.itoa_laid n h0 h1 w ht).mono fun e w' ⟨he, k, os, hw⟩ => ⟨he, by rw [hw]; exact grow_below w k os⟩
theorem own_one' (w : World) (B : Nat) (z : Int) (hB : B ≤ w.heap.size) : By.OwnB 5 (w.alloc (.cells #[.int .u8 z] 5)) B (.slice (some ⟨w.heap.size, 0, none⟩) 1 1) [z] := by
  refine ⟨rfl, .inr ⟨w.heap.size, 1, #[.int .u8 z], rfl, hB, heap_alloc_new w _, Nat.le_refl _, by unfold maxLen; decide, rfl, rfl⟩⟩
theorem conv1 (W : World) (g B : Nat) (z : Int) (h : By.OwnB 5 W B (.slice (some ⟨g, 0, none⟩) 1 1) [z]) : (convert 22 9 (.slice (some ⟨g, 0, none⟩) 1 1)).run Tryz.prog W = .ok (.string (strOfNums [z])) W := by
  exact By.run_convert_own (P := Tryz.prog) W B 22 5 9 Tryz.underlying22 Tryz.underlying5 Tryz.underlying9 _ [z] h
theorem one_list (z : Nat) (_h : z < 256) : strOfNums [(z : Int)] = baL [UInt8.ofNat z] := by
  unfold strOfNums baL
  simp
theorem baL_app (a b : List UInt8) : baL a ++ baL b = baL (a ++ b) := by
  unfold baL
  apply ByteArray.ext
  simp
theorem baL_size (a : List UInt8) : (baL a).size = a.length := by unfold baL; simp [ByteArray.size]
set_option maxRecDepth 100000 in
set_option maxHeartbeats 1600000 in
theorem l00Digits_any : ∀ (f n : Nat) (w : World), n < 10 ^ f → f ≤ 18 →
    Calls Tryz.prog 76 #[.int .i64 n] w fun e w' => e = .returned (.string (baL (decDigits n))) ∧ Below w.heap.size w w'
  | 0, n, w, h, _ => by
    obtain rfl : n = 0 := by simpa using h
    have hcv := conv1 (w.alloc (.cells #[.int .u8 48] 5)) w.heap.size w.heap.size 48 (own_one' w _ 48 (Nat.le_refl _))
    have HE : Hid (strOfNums [48] = baL (decDigits 0)) := by show _ = _; rw [dec_lt (by decide)]; exact one_list 48 (by decide)
    go_enter Tryz.func76, Tryz.ntmps76
    go_wp2_with fail
    go_ret
    exact ⟨ret_str HE.out, bel1 _ _⟩
  | f + 1, n, w, h, hf => by
    have hn18 : n < 10 ^ 18 := Nat.lt_of_lt_of_le h (Nat.pow_le_pow_right (by decide) hf)
    have hn : n < 1000000000000000000 := hn18
    have hm : ((n : Int) == -9223372036854775808) = false := by rw [beq_eq_false_iff_ne]; omega
    have h0 : ¬ (n : Int) < 0 := by omega
    have hnI : (n : Int) ≤ 999999999999999999 := by omega
    have hnJ : (0 : Int) ≤ (n : Int) := by omega
    by_cases h10 : n < 10
    · have h10' : (n : Int) < 10 := by omega
      have hcv := conv1 (w.alloc (.cells #[.int .u8 (48 + (n : Int))] 5)) w.heap.size w.heap.size (48 + (n : Int)) (own_one' w _ _ (Nat.le_refl _))
      have HE : Hid (strOfNums [48 + (n : Int)] = baL (decDigits n)) := by
        show _ = _
        rw [dec_lt h10, show (48 + (n : Int)) = ((48 + n : Nat) : Int) by omega]
        exact one_list (48 + n) (by omega)
      clear hn18 h
      go_enter Tryz.func76, Tryz.ntmps76
      go_wp2_with fail
      go_ret
      exact ⟨ret_str HE.out, bel1 _ _⟩
    · have h10' : ¬ (n : Int) < 10 := by omega
      have HI : Hid (∀ W (z : Int), z = ((n / 10 : Nat) : Int) → Calls Tryz.prog 76 #[.int .i64 z] W fun e w' => e = .returned (.string (baL (decDigits (n / 10)))) ∧ Below W.heap.size W w') := fun W z hz => by
        rw [hz]
        exact l00Digits_any f (n / 10) W (by rw [Nat.pow_succ] at h; omega) (by omega)
      have ez : (IntKind.u8.wrap (IntKind.i64.wrap (48 + (n : Int).tmod 10))) = ((48 + n % 10 : Nat) : Int) := by
        rw [Int.tmod_eq_emod_of_nonneg hnJ, IntKind.wrap_u8, IntKind.wrap_i64]; omega
      have ew : IntKind.i64.wrap ((n : Int) / 10) = ((n / 10 : Nat) : Int) := by rw [IntKind.wrap_i64]; omega
      have HE : Hid (baL (decDigits (n / 10)) ++ strOfNums [(IntKind.u8.wrap (IntKind.i64.wrap (48 + (n : Int).tmod 10)))] = baL (decDigits n)) := by
        show _ = _
        rw [dec_ge h10, ez, one_list (48 + n % 10) (by omega), baL_app]
      have HL : Hid ((decDigits (n / 10)).length ≤ 18) := dec_len 17 _ (by omega)
      have hs1 : (strOfNums [(IntKind.u8.wrap (IntKind.i64.wrap (48 + (n : Int).tmod 10)))]).size = 1 := by rw [strOfNums_size]; rfl
      have hsz : ¬ 9223372036854775807 < (baL (decDigits (n / 10))).size + (strOfNums [(IntKind.u8.wrap (IntKind.i64.wrap (48 + (n : Int).tmod 10)))]).size := by rw [hs1, baL_size]; have := HL.out; omega
      have HW : Hid (IntKind.i64.wrap ((n : Int) / 10) = ((n / 10 : Nat) : Int)) := ew
      have hcv0 := conv1 (w.alloc (.cells #[.int .u8 (IntKind.u8.wrap (IntKind.i64.wrap (48 + (n : Int).tmod 10)))] 5)) w.heap.size w.heap.size (IntKind.u8.wrap (IntKind.i64.wrap (48 + (n : Int).tmod 10))) (own_one' w _ _ (Nat.le_refl _))
      have hcv1 := conv1 (w.alloc (.cells #[.int .u8 (IntKind.u8.wrap (IntKind.i64.wrap (48 + (n : Int).tmod 10)))] 5)).drew w.heap.size w.heap.size (IntKind.u8.wrap (IntKind.i64.wrap (48 + (n : Int).tmod 10))) (own_one' w _ _ (Nat.le_refl _))
      generalize baL (decDigits (n / 10)) = a at HI HE hsz
      clear hn18 h HL hs1 ez ew
      go_enter Tryz.func76, Tryz.ntmps76
      go_upto_region 7 with fail
      go_region_law (go_simp; go_at_call 76; refine (HI.out _ _ HW.out).mono ?_; rintro e w1 ⟨rfl, b1⟩; (first | (with_reducible (have hA := ordA rfl b1); obtain ⟨o1, g1, B1⟩ := hA; have hc1 := conv1 w1 _ _ _ o1) | (with_reducible (have hA := ordB rfl b1); obtain ⟨g1, B1⟩ := hA; have hc1 := conv1 (w1.alloc (.cells #[.int .u8 (IntKind.u8.wrap (IntKind.i64.wrap (48 + (n : Int).tmod 10)))] 5)) w1.heap.size w1.heap.size _ (own_one' w1 _ _ (Nat.le_refl _)))); try go_simp)
      all_goals
        go_wp2_with fail
        go_ret
        exact ⟨ret_str HE.out, by first | exact g1 | exact g1.alloc B1 _⟩
end Go.Proofs.YtiflfcpoajijaaaGreatDoor.Gr12

/- A grant's text, of the specification; both GrantText functions. -/
namespace Go.Proofs.YtiflfcpoajijaaaGreatDoor.Gr12
open Go.RowKit Go.Sort Go.Proofs.YtiflfcpoajijaaaGreatDoor.Bd12 Go.Proofs.YtiflfcpoajijaaaGreatDoor.Ap
open Go.Lib (decDigits itoa)
open Go.Proofs.YtiflfcpoajijaaaGreatDoor.Rq (inB opB ret_bool)

theorem digits_any (z : Int) (h0 : 0 ≤ z) (h1 : z < 1000000000000000000) (w : World) : Calls Tryz.prog 76 #[.int .i64 z] w fun e w' => e = .returned (.string (baL (itoa z))) ∧ Below w.heap.size w w' := by
  have := l00Digits_any 18 z.toNat w (by omega) (by decide)
  rw [Int.toNat_of_nonneg h0] at this
  have e : itoa z = decDigits z.toNat := by unfold itoa; rw [if_neg (by omega)]
  rwa [e]
theorem tx_parts (g : Gg) : ((((((⟨#[103, 114, 97, 110, 116, 32]⟩ : ByteArray) ++ g.nm) ++ (⟨#[32]⟩ : ByteArray)) ++ baL (itoa g.hd)) ++ (⟨#[32]⟩ : ByteArray)) ++ baL (itoa g.tk)) ++ (⟨#[32]⟩ : ByteArray) ++ baL (itoa g.ex) = tx g := by
  have h6 : (⟨#[103, 114, 97, 110, 116, 32]⟩ : ByteArray) = baL (wrd ++ [32]) := rfl
  have h1 : (⟨#[32]⟩ : ByteArray) = baL [32] := rfl
  rw [h6, h1, ← baL_back g.nm]
  simp only [baL_app]
  unfold tx txL baL
  congr 2
  simp
set_option maxRecDepth 100000 in
set_option maxHeartbeats 1600000 in
theorem l12Text_any (g : Gg) (w : World) (hn : g.nm.size ≤ 12) (hr : Rng g.hd g.tk g.ex) :
    Calls Tryz.prog 43 #[gV g] w fun e w' => e = .returned (.string (tx g)) ∧ Below w.heap.size w w' := by
  have HT : Hid (((((((⟨#[103, 114, 97, 110, 116, 32]⟩ : ByteArray) ++ g.nm) ++ (⟨#[32]⟩ : ByteArray)) ++ baL (itoa g.hd)) ++ (⟨#[32]⟩ : ByteArray)) ++ baL (itoa g.tk)) ++ (⟨#[32]⟩ : ByteArray) ++ baL (itoa g.ex) = tx g) := tx_parts g
  have l1 : (baL (itoa g.hd)).size ≤ 18 := by rw [baL_size]; exact itoa_len _ hr.1 hr.2.1
  have l2 : (baL (itoa g.tk)).size ≤ 18 := by rw [baL_size]; exact itoa_len _ hr.2.2.1 hr.2.2.2.1
  have l3 : (baL (itoa g.ex)).size ≤ 18 := by rw [baL_size]; exact itoa_len _ hr.2.2.2.2.1 hr.2.2.2.2.2
  have HD1 : Hid (∀ W, Calls Tryz.prog 76 #[.int .i64 g.hd] W fun e w' => e = .returned (.string (baL (itoa g.hd))) ∧ Below W.heap.size W w') := fun W => digits_any _ hr.1 hr.2.1 W
  have HD2 : Hid (∀ W, Calls Tryz.prog 76 #[.int .i64 g.tk] W fun e w' => e = .returned (.string (baL (itoa g.tk))) ∧ Below W.heap.size W w') := fun W => digits_any _ hr.2.2.1 hr.2.2.2.1 W
  have HD3 : Hid (∀ W, Calls Tryz.prog 76 #[.int .i64 g.ex] W fun e w' => e = .returned (.string (baL (itoa g.ex))) ∧ Below W.heap.size W w') := fun W => digits_any _ hr.2.2.2.2.1 hr.2.2.2.2.2 W
  generalize baL (itoa g.hd) = d1 at HT HD1 l1
  generalize baL (itoa g.tk) = d2 at HT HD2 l2
  generalize baL (itoa g.ex) = d3 at HT HD3 l3
  clear hr
  have HX : Hid (∀ W, Below (w.alloc (.cells #[.string g.nm, .int .i64 g.hd, .int .i64 g.tk, .int .i64 g.ex] 24)).heap.size (w.alloc (.cells #[.string g.nm, .int .i64 g.hd, .int .i64 g.tk, .int .i64 g.ex] 24)) W → (W.cell? ⟨w.heap.size, 0, none⟩ = some (.string g.nm) ∧ W.cell? ⟨w.heap.size, 1, none⟩ = some (.int .i64 g.hd) ∧ W.cell? ⟨w.heap.size, 2, none⟩ = some (.int .i64 g.tk) ∧ W.cell? ⟨w.heap.size, 3, none⟩ = some (.int .i64 g.ex)) ∧ Below w.heap.size w W) := fun W hW => by
    have h1 := (hW.block w.heap.size (by simp)).trans (heap_alloc_new w _)
    exact ⟨⟨by simp [World.cell?, h1], by simp [World.cell?, h1], by simp [World.cell?, h1], by simp [World.cell?, h1]⟩, (bel1 w _).trans (hW.mono (by simp))⟩
  unfold gV
  go_enter Tryz.func43, Tryz.ntmps43
  go_upto_region 1 with fail
  generalize w.alloc (.cells #[.string g.nm, .int .i64 g.hd, .int .i64 g.tk, .int .i64 g.ex] 24) = wb at HX ⊢
  obtain ⟨X, hX, W, QI0, QO0⟩ := Qc.klass wb
  have QI : Hid (∀ w', Below wb.heap.size wb w' → ∃ x, w' = W x) := QI0
  have QO : Hid (∀ x, Below wb.heap.size wb (W x)) := QO0
  clear QI0 QO0
  obtain ⟨⟨c0, c1, c2, c3⟩, _⟩ := HX.out wb (Below.refl _ _)
  have y0 := Qc.cell_all QO.out c0
  have y1 := Qc.cell_all QO.out c1
  have y2 := Qc.cell_all QO.out c2
  have y3 := Qc.cell_all QO.out c3
  clear c0 c1 c2 c3
  refine Qc.region_class (W := W) (by kernel_rfl) (by kernel_rfl) (QI.out _ Qc.from_drew) ?_
  repeat (go_big_quiet_step (first | (go_at_call 76; (first | (with_reducible refine (HD1.out _).mono ?_) | (with_reducible refine (HD2.out _).mono ?_) | (with_reducible refine (HD3.out _).mono ?_)); rintro e w2 ⟨rfl, b2⟩; exact ⟨rfl, Qc.back QI.out QO.out b2⟩)))
  refine wpQuiet_nil ?_
  rintro _ ⟨xq, rfl⟩
  have G : Hid (Below w.heap.size w (W xq)) := (HX.out _ (QO.out xq)).2
  go_wp2_with fail
  go_ret
  exact ⟨ret_str HT.out, G.out⟩
theorem ret_si {a b : ByteArray} {c d : Int} (h : a = b ∧ c = d) : Ending.returned (.tuple #[.string a, .int .i64 c]) = .returned (.tuple #[.string b, .int .i64 d]) := by rw [h.1, h.2]
/-- What GrantText answers. -/
def gtS (g : Gg) : ByteArray := if grB g then tx g else ⟨#[]⟩
def gtC (g : Gg) : Int := if grB g then 0 else 1
theorem tx_small {g : Gg} (h : grB g = true) : (tx g).size ≤ 100 := by
  obtain ⟨hn, hr⟩ := grB_ok g h
  have h12 := (nmd_of (grB_parts h).1).2
  have hl : g.nm.data.toList.length = g.nm.size := by simp
  have e : (tx g).size = (txL g.nm.data.toList g.hd g.tk g.ex).length := baL_size _
  rw [e]
  unfold txL wrd
  have l1 := itoa_len g.hd hr.1 hr.2.1
  have l2 := itoa_len g.tk hr.2.2.1 hr.2.2.2.1
  have l3 := itoa_len g.ex hr.2.2.2.2.1 hr.2.2.2.2.2
  simp only [List.length_append, List.length_cons, List.length_nil]
  omega
/-- The first k numbers, each behind a blank. -/
def numL (g : Gg) : Nat → List UInt8
  | 0 => []
  | 1 => 32 :: itoa g.hd
  | 2 => 32 :: itoa g.hd ++ 32 :: itoa g.tk
  | _ => 32 :: itoa g.hd ++ (32 :: itoa g.tk ++ 32 :: itoa g.ex)
def nmAt (g : Gg) : Nat → Int
  | 0 => g.hd
  | 1 => g.tk
  | _ => g.ex
theorem index3 (g : Gg) (k : Nat) (h : k < 3) (W : World) : (Instr.index 108 (.agg #[.int .i64 g.hd, .int .i64 g.tk, .int .i64 g.ex]) (.int .i64 (k : Int))).run Tryz.prog W = .ok (.int .i64 (nmAt g k)) W := by
  rcases (by omega : k = 0 ∨ k = 1 ∨ k = 2) with rfl | rfl | rfl
  all_goals simp [Instr.index, go_sem, nmAt]
def preL (g : Gg) : List UInt8 := wrd ++ [32] ++ g.nm.data.toList
theorem tx_num (g : Gg) : (⟨(preL g ++ numL g 3).toArray⟩ : ByteArray) = tx g := by
  unfold tx txL preL numL
  simp
theorem num_succ (g : Gg) (k : Nat) (h : k < 3) : numL g (k + 1) = (numL g k ++ [32]) ++ itoa (nmAt g k) := by
  rcases (by omega : k = 0 ∨ k = 1 ∨ k = 2) with rfl | rfl | rfl <;> simp [numL, nmAt]
theorem num_len (g : Gg) (hr : Rng g.hd g.tk g.ex) (k : Nat) : (numL g k).length ≤ 100 := by
  have l1 := itoa_len g.hd hr.1 hr.2.1
  have l2 := itoa_len g.tk hr.2.2.1 hr.2.2.2.1
  have l3 := itoa_len g.ex hr.2.2.2.2.1 hr.2.2.2.2.2
  match k with
  | 0 => simp [numL]
  | 1 => simp [numL]; omega
  | 2 => simp [numL]; omega
  | k + 3 => simp [numL]; omega
set_option maxRecDepth 100000 in
set_option maxHeartbeats 1600000 in
theorem writtenGrant_any (g : Gg) (w : World) (hn : g.nm.size ≤ 12) (hr : Rng g.hd g.tk g.ex) (hP : PTab w) :
    Calls Tryz.prog 55 #[gV g] w fun e w' => e = .returned (.string (tx g)) ∧ Below w.heap.size w w' := by
  have HP : Hid (PTab w) := hP
  have HN : Hid (∀ k, (numL g k).length ≤ 100) := num_len g hr
  have HPL : Hid ((preL g).length ≤ 100) := by
    show (preL g).length ≤ 100
    have hl : g.nm.data.toList.length = g.nm.size := by simp
    unfold preL wrd
    simp only [List.length_append, List.length_cons, List.length_nil]
    omega
  have HI : Hid (∀ W k, k < 3 → PTab W → Calls Tryz.prog 84 #[.int .i64 (nmAt g k)] W fun e w' => e = .returned (.string (baL (itoa (nmAt g k)))) ∧ Below W.heap.size W w') := fun W k hk hW => by
    refine itoa_any _ ?_ ?_ W hW
    · rcases (by omega : k = 0 ∨ k = 1 ∨ k = 2) with rfl | rfl | rfl <;> (simp only [nmAt]; unfold Rng at hr; omega)
    · rcases (by omega : k = 0 ∨ k = 1 ∨ k = 2) with rfl | rfl | rfl <;> (simp only [nmAt]; unfold Rng at hr; omega)
  have HIL : Hid (∀ k, k < 3 → (itoa (nmAt g k)).length ≤ 18) := fun k hk => by
    refine itoa_len _ ?_ ?_
    · rcases (by omega : k = 0 ∨ k = 1 ∨ k = 2) with rfl | rfl | rfl <;> (simp only [nmAt]; unfold Rng at hr; omega)
    · rcases (by omega : k = 0 ∨ k = 1 ∨ k = 2) with rfl | rfl | rfl <;> (simp only [nmAt]; unfold Rng at hr; omega)
  have HX : Hid (∀ W, Below (w.heap.size + 1) ((w.alloc (.cells #[.string g.nm, .int .i64 g.hd, .int .i64 g.tk, .int .i64 g.ex] 24)).alloc (.cells #[.pointer none, .slice none 0 0] 103)) W → (W.cell? ⟨w.heap.size, 0, none⟩ = some (.string g.nm) ∧ W.cell? ⟨w.heap.size, 1, none⟩ = some (.int .i64 g.hd) ∧ W.cell? ⟨w.heap.size, 2, none⟩ = some (.int .i64 g.tk) ∧ W.cell? ⟨w.heap.size, 3, none⟩ = some (.int .i64 g.ex)) ∧ Below w.heap.size w W) := fun W hW => by
    have h1 := ((hW.block w.heap.size (by omega)).trans ((bel1 (w.alloc (.cells #[.string g.nm, .int .i64 g.hd, .int .i64 g.tk, .int .i64 g.ex] 24)) (.cells #[.pointer none, .slice none 0 0] 103)).block _ (by simp))).trans (heap_alloc_new w _)
    exact ⟨⟨by simp [World.cell?, h1], by simp [World.cell?, h1], by simp [World.cell?, h1], by simp [World.cell?, h1]⟩, ((bel1 w _).trans ((bel1 _ _).mono (bel1 w _).size)).trans (hW.mono (by omega))⟩
  have B0 : Hid (Bu ((w.alloc (.cells #[.string g.nm, .int .i64 g.hd, .int .i64 g.tk, .int .i64 g.ex] 24)).alloc (.cells #[.pointer none, .slice none 0 0] 103)) (w.heap.size + 1) (w.heap.size + 1) [] ∧ Below (w.heap.size + 1) ((w.alloc (.cells #[.string g.nm, .int .i64 g.hd, .int .i64 g.tk, .int .i64 g.ex] 24)).alloc (.cells #[.pointer none, .slice none 0 0] 103)) ((w.alloc (.cells #[.string g.nm, .int .i64 g.hd, .int .i64 g.tk, .int .i64 g.ex] 24)).alloc (.cells #[.pointer none, .slice none 0 0] 103)) ∧ w.heap.size + 1 ≤ ((w.alloc (.cells #[.string g.nm, .int .i64 g.hd, .int .i64 g.tk, .int .i64 g.ex] 24)).alloc (.cells #[.pointer none, .slice none 0 0] 103)).heap.size) := by
    have e1 : (w.alloc (.cells #[.string g.nm, .int .i64 g.hd, .int .i64 g.tk, .int .i64 g.ex] 24)).heap.size = w.heap.size + 1 := by simp
    refine ⟨?_, Below.refl _ _, by simp⟩
    have := Bu.new (w.alloc (.cells #[.string g.nm, .int .i64 g.hd, .int .i64 g.tk, .int .i64 g.ex] 24))
    rwa [e1] at this
  have HT : Hid ((⟨(preL g ++ numL g 3).toArray⟩ : ByteArray) = tx g) := tx_num g
  clear hP hr
  unfold gV
  go_enter Tryz.func55, Tryz.ntmps55
  go_upto_region 2 with fail
  generalize (w.alloc (.cells #[.string g.nm, .int .i64 g.hd, .int .i64 g.tk, .int .i64 g.ex] 24)).alloc (.cells #[.pointer none, .slice none 0 0] 103) = wb at HX B0 ⊢
  go_wp2_with fail
  refine (write_any _ _ [] ⟨#[103, 114, 97, 110, 116]⟩ _ B0.out.1 (by decide) (by decide) B0.out.2.2).mono ?_
  rintro e w1 ⟨rfl, u1, b1⟩
  have B1 : Hid (Bu w1 (w.heap.size + 1) (w.heap.size + 1) wrd ∧ Below (w.heap.size + 1) wb w1 ∧ w.heap.size + 1 ≤ w1.heap.size) := ⟨u1, B0.out.2.1.trans b1, Nat.le_trans B0.out.2.2 b1.size⟩
  clear u1 b1
  go_wp2_with fail
  refine (write_any _ _ wrd ⟨#[32]⟩ _ B1.out.1 (by decide) (by decide) B1.out.2.2).mono ?_
  rintro e w2 ⟨rfl, u2, b2⟩
  have B2 : Hid (Bu w2 (w.heap.size + 1) (w.heap.size + 1) (wrd ++ [32]) ∧ Below (w.heap.size + 1) wb w2 ∧ w.heap.size + 1 ≤ w2.heap.size) := ⟨u2, B1.out.2.1.trans b2, Nat.le_trans B1.out.2.2 b2.size⟩
  clear u2 b2
  obtain ⟨⟨c0, c1, c2, c3⟩, _⟩ := HX.out _ B2.out.2.1
  go_wp2_with fail
  refine (write_any _ _ (wrd ++ [32]) g.nm _ B2.out.1 (by decide) (by omega) B2.out.2.2).mono ?_
  rintro e w3 ⟨rfl, u3, b3⟩
  have B3 : Hid (Bu w3 (w.heap.size + 1) (w.heap.size + 1) (preL g) ∧ Below (w.heap.size + 1) wb w3 ∧ w.heap.size + 1 ≤ w3.heap.size) := ⟨u3, B2.out.2.1.trans b3, Nat.le_trans B2.out.2.2 b3.size⟩
  clear u3 b3 c0 c1 c2 c3
  obtain ⟨⟨c0, c1, c2, c3⟩, _⟩ := HX.out _ B3.out.2.1
  go_wp2_with fail
  clear c0 c1 c2 c3
  go_loopw [18] (fun i wr => ∃ k : Nat, k ≤ 3 ∧ i = .int .i64 k ∧ Hid (Bu wr (w.heap.size + 1) (w.heap.size + 1) (preL g ++ numL g k) ∧ Below (w.heap.size + 1) wb wr ∧ w.heap.size + 1 ≤ wr.heap.size)) (fun i _ => 3 - (intOf i).toNat)
  case atStart => exact ⟨0, by omega, rfl, by show Bu _ _ _ _ ∧ _; rw [show numL g 0 = [] from rfl, List.append_nil]; exact B3.out⟩
  case round =>
    obtain ⟨k, hk, rfl, HZ⟩ := hrel
    by_cases hlt : k < 3
    · have hS : Hid (numL g (k + 1) = (numL g k ++ [32]) ++ itoa (nmAt g k)) := num_succ g k hlt
      have hL : Hid ((preL g ++ numL g k).length ≤ 1000 ∧ ((preL g ++ numL g k) ++ [32]).length ≤ 1000 ∧ (baL (itoa (nmAt g k))).size ≤ 1000000) := by
        refine ⟨?_, ?_, ?_⟩
        · rw [List.length_append]; have := HPL.out; have := HN.out k; omega
        · rw [List.length_append, List.length_append]; have := HPL.out; have := HN.out k; simp; omega
        · rw [baL_size]; have := HIL.out k hlt; omega
      have HIk : Hid (∀ W, PTab W → Calls Tryz.prog 84 #[.int .i64 (nmAt g k)] W fun e w' => e = .returned (.string (baL (itoa (nmAt g k)))) ∧ Below W.heap.size W w') := fun W hW => HI.out W k hlt hW
      have hix : ∀ W, (Instr.index 108 (.agg #[.int .i64 g.hd, .int .i64 g.tk, .int .i64 g.ex]) (.int .i64 (k : Int))).run Tryz.prog W = .ok (.int .i64 (nmAt g k)) W := fun W => index3 g k hlt W
      have h3 : (k : Int) < 3 := by omega
      have hA : Hid (preL g ++ numL g (k + 1) = ((preL g ++ numL g k) ++ [32]) ++ itoa (nmAt g k)) := by show _ = _; rw [hS.out]; simp
      have hPk : Hid (∀ W, Below (w.heap.size + 1) wb W → PTab W) := fun W hW => HP.out.below (HX.out W hW).2
      generalize nmAt g k = z at hL HIk hix hA
      generalize preL g ++ numL g k = l at HZ hL hA
      clear hS
      go_wp2_with fail
      refine (write_any _ _ l ⟨#[32]⟩ _ HZ.out.1 (by have := hL.out.1; omega) (by decide) HZ.out.2.2).mono ?_
      rintro e w4 ⟨rfl, u4, b4⟩
      have B4 : Hid (Bu w4 (w.heap.size + 1) (w.heap.size + 1) (l ++ [32]) ∧ Below (w.heap.size + 1) wb w4 ∧ w.heap.size + 1 ≤ w4.heap.size) := ⟨u4, HZ.out.2.1.trans b4, Nat.le_trans HZ.out.2.2 b4.size⟩
      clear u4 b4
      go_wp2_with fail
      refine (HIk.out _ (hPk.out _ B4.out.2.1)).mono ?_
      rintro e w5 ⟨rfl, b5⟩
      have B5 : Hid (Bu w5 (w.heap.size + 1) (w.heap.size + 1) (l ++ [32]) ∧ Below (w.heap.size + 1) wb w5 ∧ w.heap.size + 1 ≤ w5.heap.size) := ⟨B4.out.1.up b5, B4.out.2.1.trans (b5.mono B4.out.2.2), Nat.le_trans B4.out.2.2 b5.size⟩
      clear b5
      go_wp2_with fail
      refine (write_any _ _ (l ++ [32]) (baL (itoa z)) _ B5.out.1 (by have := hL.out.2.1; omega) hL.out.2.2 B5.out.2.2).mono ?_
      rintro e w6 ⟨rfl, u6, b6⟩
      have B6 : Hid (Bu w6 (w.heap.size + 1) (w.heap.size + 1) (preL g ++ numL g (k + 1)) ∧ Below (w.heap.size + 1) wb w6 ∧ w.heap.size + 1 ≤ w6.heap.size) := ⟨by rw [hA.out]; exact u6, B5.out.2.1.trans b6, Nat.le_trans B5.out.2.2 b6.size⟩
      clear u6 b6
      go_wp2_with fail
      exact ⟨⟨k + 1, by omega, by go_num, B6⟩, by simp [intOf]; omega⟩
    · obtain rfl : k = 3 := by omega
      go_wp2_with fail
      refine (string_any _ _ _ _ HZ.out.1 HZ.out.2.2).mono ?_
      rintro e w5 ⟨rfl, b5⟩
      have G : Hid (Below w.heap.size w w5) := (HX.out _ (HZ.out.2.1.trans b5)).2
      clear b5
      go_wp2_with fail
      go_ret
      exact ⟨ret_str HT.out, G.out⟩
set_option maxRecDepth 100000 in
set_option maxHeartbeats 1600000 in
theorem implGrantText_any (g : Gg) (w : World) (hs : g.nm.size ≤ maxLen) (hP : PTab w) :
    Calls Tryz.prog 28 #[gV g] w fun e w' => e = .returned (.tuple #[.string (gtS g), .int .i64 (gtC g)]) ∧ Below w.heap.size w w' := by
  have HX : Hid (∀ W, Below (w.alloc (.cells #[.string g.nm, .int .i64 g.hd, .int .i64 g.tk, .int .i64 g.ex] 24)).heap.size (w.alloc (.cells #[.string g.nm, .int .i64 g.hd, .int .i64 g.tk, .int .i64 g.ex] 24)) W → (W.cell? ⟨w.heap.size, 0, none⟩ = some (.string g.nm) ∧ W.cell? ⟨w.heap.size, 1, none⟩ = some (.int .i64 g.hd) ∧ W.cell? ⟨w.heap.size, 2, none⟩ = some (.int .i64 g.tk) ∧ W.cell? ⟨w.heap.size, 3, none⟩ = some (.int .i64 g.ex)) ∧ Below w.heap.size w W) := fun W hW => by
    have h1 := (hW.block w.heap.size (by simp)).trans (heap_alloc_new w _)
    exact ⟨⟨by simp [World.cell?, h1], by simp [World.cell?, h1], by simp [World.cell?, h1], by simp [World.cell?, h1]⟩, (bel1 w _).trans (hW.mono (by simp))⟩
  have HO : Hid (∀ W, Calls Tryz.prog 53 #[.agg #[.string g.nm, .int .i64 g.hd, .int .i64 g.tk, .int .i64 g.ex]] W fun e w' => e = .returned (.bool (grB g)) ∧ Below W.heap.size W w') := fun W => implGrantOK_any g W hs
  have HP : Hid (PTab w) := hP
  clear hs hP
  unfold gV
  cases h : grB g with
  | false =>
    have HE : Hid (gtS g = ⟨#[]⟩ ∧ gtC g = 1) := by show _ ∧ _; unfold gtS gtC; rw [h]; exact ⟨rfl, rfl⟩
    rw [h] at HO
    clear h
    go_enter Tryz.func28, Tryz.ntmps28
    go_upto_region 1 with fail
    generalize w.alloc (.cells #[.string g.nm, .int .i64 g.hd, .int .i64 g.tk, .int .i64 g.ex] 24) = wb at HX ⊢
    obtain ⟨⟨c0, c1, c2, c3⟩, _⟩ := HX.out wb (Below.refl _ _)
    go_wp2_with fail
    refine (HO.out _).mono ?_
    rintro e w1 ⟨rfl, b1⟩
    have G : Hid (Below w.heap.size w w1) := (HX.out _ b1).2
    clear b1
    go_wp2_with fail
    go_ret2
    exact ⟨ret_si ⟨HE.out.1.symm, HE.out.2.symm⟩, G.out⟩
  | true =>
    have HE : Hid (gtS g = tx g ∧ gtC g = 0) := by show _ ∧ _; unfold gtS gtC; rw [h]; exact ⟨rfl, rfl⟩
    have HTX := (show Hid (∀ W, Below w.heap.size w W → Calls Tryz.prog 55 #[.agg #[.string g.nm, .int .i64 g.hd, .int .i64 g.tk, .int .i64 g.ex]] W fun e w' => e = .returned (.string (tx g)) ∧ Below W.heap.size W w') from fun W hW => writtenGrant_any g W (nmd_of (grB_parts h).1).2 (grB_ok g h).2 (HP.out.below hW))
    rw [h] at HO
    clear h
    go_enter Tryz.func28, Tryz.ntmps28
    go_upto_region 1 with fail
    generalize w.alloc (.cells #[.string g.nm, .int .i64 g.hd, .int .i64 g.tk, .int .i64 g.ex] 24) = wb at HX ⊢
    obtain ⟨⟨c0, c1, c2, c3⟩, _⟩ := HX.out wb (Below.refl _ _)
    go_wp2_with fail
    refine (HO.out _).mono ?_
    rintro e w1 ⟨rfl, b1⟩
    have B1 : Hid (Below wb.heap.size wb w1) := b1
    clear b1 c0 c1 c2 c3
    obtain ⟨⟨c0, c1, c2, c3⟩, _⟩ := HX.out w1 B1.out
    go_wp2_with fail
    refine (HTX.out _ (HX.out _ B1.out).2).mono ?_
    rintro e w2 ⟨rfl, b2⟩
    have G : Hid (Below w.heap.size w w2) := (HX.out _ (B1.out.trans (b2.mono B1.out.size))).2
    clear b2
    go_wp2_with fail
    go_ret2
    exact ⟨ret_si ⟨HE.out.1.symm, HE.out.2.symm⟩, G.out⟩
end Go.Proofs.YtiflfcpoajijaaaGreatDoor.Gr12
