/- Numbers' texts and grants' texts as lists of bytes: what is written is read back, and what is read is what would be written. -/
import Derived.Lib.ItoaNum
import Derived.Lib.Fields
namespace Go.Proofs.Ytlhokhccjejcoaa.Gr12
open Go.Lib (decDigits itoa)

def isD (b : UInt8) : Bool := decide (48 ≤ b.toNat) && decide (b.toNat ≤ 57)
/-- The number that digits are. -/
def vl (l : List UInt8) : Nat := l.foldl (fun a b => a * 10 + (b.toNat - 48)) 0
theorem vl_snoc (l : List UInt8) (b : UInt8) : vl (l ++ [b]) = vl l * 10 + (b.toNat - 48) := by unfold vl; rw [List.foldl_append]; rfl
def okD (l : List UInt8) : Bool := decide (1 ≤ l.length) && (decide (l.length ≤ 18) && l.all isD)
/-- What a number's text tells; none of other texts. -/
def nm (l : List UInt8) : Option Int :=
  match l with
  | [] => none
  | b :: d => if b = 45 then (if okD d && !(d.head? == some 48) then some (-(vl d : Int)) else none)
      else if okD (b :: d) && (!(b == 48) || d.isEmpty) then some (vl (b :: d) : Int) else none

theorem ofN (x : Nat) (h : x < 256) : (UInt8.ofNat x).toNat = x := UInt8.toNat_ofNat_of_lt' (by unfold UInt8.size; omega)
theorem dec_lt {u : Nat} (h : u < 10) : decDigits u = [UInt8.ofNat (48 + u)] := by rw [decDigits, dif_pos h]
theorem dec_ge {u : Nat} (h : ¬ u < 10) : decDigits u = decDigits (u / 10) ++ [UInt8.ofNat (48 + u % 10)] := by rw [decDigits, dif_neg h]
theorem isD_of (x : Nat) (h : x < 10) : isD (UInt8.ofNat (48 + x)) = true := by
  unfold isD; rw [ofN _ (by omega)]; simp; omega
theorem dec_all (u : Nat) : (decDigits u).all isD = true := by
  induction u using Nat.strongRecOn with
  | _ u ih =>
    by_cases h : u < 10
    · rw [dec_lt h, List.all_cons, isD_of u h]; rfl
    · rw [dec_ge h, List.all_append, ih (u / 10) (by omega), List.all_cons, isD_of (u % 10) (by omega)]; rfl
theorem dec_val (u : Nat) : vl (decDigits u) = u := by
  induction u using Nat.strongRecOn with
  | _ u ih =>
    by_cases h : u < 10
    · rw [dec_lt h]; show 0 * 10 + ((UInt8.ofNat (48 + u)).toNat - 48) = u; rw [ofN _ (by omega)]; omega
    · rw [dec_ge h, vl_snoc, ih (u / 10) (by omega), ofN _ (by omega)]; omega
theorem dec_ne (u : Nat) : decDigits u ≠ [] := by
  by_cases h : u < 10
  · rw [dec_lt h]; simp
  · rw [dec_ge h]; simp
theorem dec_len : ∀ (k u : Nat), u < 10 ^ (k + 1) → (decDigits u).length ≤ k + 1
  | 0, u, h => by rw [dec_lt (by simpa using h)]; simp
  | k + 1, u, h => by
    by_cases h1 : u < 10
    · rw [dec_lt h1]; simp
    · rw [dec_ge h1, List.length_append]
      have := dec_len k (u / 10) (by rw [Nat.pow_succ] at h; omega)
      simp; omega
theorem head_app {l m : List UInt8} (h : l ≠ []) : (l ++ m).head? = l.head? := by cases l with | nil => exact absurd rfl h | cons a l => rfl
theorem dec_head (u : Nat) : (decDigits u).head? = some 48 → u = 0 := by
  induction u using Nat.strongRecOn with
  | _ u ih =>
    by_cases h : u < 10
    · rw [dec_lt h]; intro e
      have : UInt8.ofNat (48 + u) = 48 := by simpa using e
      have := congrArg UInt8.toNat this
      rw [ofN _ (by omega)] at this
      have h48 : (48 : UInt8).toNat = 48 := rfl
      omega
    · rw [dec_ge h, head_app (dec_ne _)]
      intro e
      have := ih (u / 10) (by omega) e
      omega
/-- What is written is read back. -/
theorem nm_itoa (n : Int) (h0 : 0 ≤ n) (h1 : n < 1000000000000000000) : nm (itoa n) = some n := by
  have e : itoa n = decDigits n.toNat := by unfold itoa; rw [if_neg (by omega)]
  rw [e]
  have hall := dec_all n.toNat
  have hne := dec_ne n.toNat
  have hl := dec_len 17 n.toNat (by omega)
  have hv := dec_val n.toNat
  have hh := dec_head n.toNat
  have hz : n.toNat = 0 → decDigits n.toNat = [48] := fun e => by rw [e, dec_lt (by decide)]; rfl
  generalize decDigits n.toNat = l at *
  cases l with
  | nil => exact absurd rfl hne
  | cons b d =>
    have hb : b ≠ 45 := by
      intro e; rw [e] at hall; simp [isD] at hall
    have hok : okD (b :: d) = true := by unfold okD; rw [hall]; simp at hl ⊢; omega
    unfold nm
    simp only [hok, if_neg hb]
    rw [if_pos, hv]
    · congr 1; omega
    · by_cases e : b = 48
      · have := hz (hh (by simp [e]))
        simp at this
        simp [e, this.2]
      · simp [e]
theorem snoc_of {l : List UInt8} (h : l ≠ []) : ∃ m b, l = m ++ [b] := ⟨l.dropLast, l.getLast h, (List.dropLast_concat_getLast h).symm⟩
theorem val_pos : ∀ (n : Nat) (l : List UInt8), l.length = n → l.all isD = true → l ≠ [] → l.head? ≠ some 48 → 0 < vl l
  | 0, l, h, _, hn, _ => absurd (List.length_eq_zero_iff.1 h) hn
  | n + 1, l, h, ha, hn, hh => by
    obtain ⟨m, b, rfl⟩ := snoc_of hn
    rw [vl_snoc]
    cases m with
    | nil =>
      simp at hh ha
      have : 48 ≤ b.toNat := by simp [isD] at ha; omega
      have h2 : b.toNat ≠ 48 := fun e => hh (by apply UInt8.toNat_inj.1; exact e)
      omega
    | cons a m =>
      have := val_pos n (a :: m) (by simp at h ⊢; omega) (by rw [List.all_append, Bool.and_eq_true] at ha; exact ha.1) (by simp) (by simpa using hh)
      omega
theorem dec_back : ∀ (n : Nat) (l : List UInt8), l.length = n → l.all isD = true → l ≠ [] → l.head? ≠ some 48 → decDigits (vl l) = l
  | 0, l, h, _, hn, _ => absurd (List.length_eq_zero_iff.1 h) hn
  | n + 1, l, h, ha, hn, hh => by
    obtain ⟨m, b, rfl⟩ := snoc_of hn
    have hb : 48 ≤ b.toNat ∧ b.toNat ≤ 57 := by
      have := List.all_eq_true.1 ha b (by simp)
      simp [isD] at this; omega
    rw [vl_snoc]
    cases m with
    | nil =>
      have e : vl ([] : List UInt8) * 10 + (b.toNat - 48) = b.toNat - 48 := by simp [vl]
      rw [e, dec_lt (by omega), List.nil_append]
      congr 1
      apply UInt8.toNat_inj.1; rw [ofN _ (by omega)]; omega
    | cons a m =>
      have ha2 : (a :: m).all isD = true := by rw [List.all_append, Bool.and_eq_true] at ha; exact ha.1
      have hh2 : (a :: m).head? ≠ some 48 := by simpa using hh
      have hp := val_pos n (a :: m) (by simp at h ⊢; omega) ha2 (by simp) hh2
      have ih := dec_back n (a :: m) (by simp at h ⊢; omega) ha2 (by simp) hh2
      rw [dec_ge (by omega), show (vl (a :: m) * 10 + (b.toNat - 48)) / 10 = vl (a :: m) by omega, ih]
      congr 2
      apply UInt8.toNat_inj.1; rw [ofN _ (by omega)]; omega
/-- What is read is what would be written. -/
theorem itoa_nm (l : List UInt8) (n : Int) (h : nm l = some n) (h0 : 0 ≤ n) : itoa n = l := by
  cases l with
  | nil => simp [nm] at h
  | cons b d =>
    unfold nm at h
    by_cases hb : b = 45
    · simp only [if_pos hb] at h
      split at h
      · rename_i hc
        rw [Bool.and_eq_true] at hc
        have ho := hc.1
        have hz : d.head? ≠ some 48 := by simpa using hc.2
        unfold okD at ho
        simp only [Bool.and_eq_true, decide_eq_true_eq] at ho
        have := val_pos d.length d rfl ho.2.2 (by intro e; rw [e] at ho; simp at ho) hz
        injection h with h
        omega
      · cases h
    · simp only [if_neg hb] at h
      split at h
      · rename_i hc
        injection h with h
        rw [Bool.and_eq_true] at hc
        have ho := hc.1
        unfold okD at ho
        simp only [Bool.and_eq_true, decide_eq_true_eq] at ho
        subst h
        have e : itoa (vl (b :: d) : Int) = decDigits (vl (b :: d)) := by unfold itoa; rw [if_neg (by omega), Int.toNat_natCast]
        rw [e]
        by_cases h48 : b = 48
        · have hd : d = [] := by simpa [h48] using hc.2
          rw [hd, h48, show vl [48] = 0 from rfl, dec_lt (by decide)]; rfl
        · exact dec_back _ (b :: d) rfl ho.2.2 (by simp) (by simpa using h48)
      · cases h
theorem itoa_all (n : Int) (h0 : 0 ≤ n) : ∀ b ∈ itoa n, isD b = true := by
  unfold itoa; rw [if_neg (by omega)]; exact List.all_eq_true.1 (dec_all _)
theorem itoa_ne (n : Int) (h0 : 0 ≤ n) : itoa n ≠ [] := by unfold itoa; rw [if_neg (by omega)]; exact dec_ne _
theorem itoa_len (n : Int) (h0 : 0 ≤ n) (h1 : n < 1000000000000000000) : (itoa n).length ≤ 18 := by
  unfold itoa; rw [if_neg (by omega)]; exact dec_len 17 _ (by omega)

/-- A text parted at each blank. -/
def cutL : List UInt8 → List UInt8 → List (List UInt8)
  | cur, [] => [cur]
  | cur, b :: l => if b = 32 then cur :: cutL [] l else cutL (cur ++ [b]) l
theorem cutL_ne (cur l : List UInt8) : cutL cur l ≠ [] := by
  induction l generalizing cur with
  | nil => simp [cutL]
  | cons b l ih => unfold cutL; split; simp; exact ih _
def joinL : List (List UInt8) → List UInt8
  | [] => []
  | [a] => a
  | a :: b :: l => a ++ 32 :: joinL (b :: l)
theorem join_cut (l : List UInt8) : ∀ cur, joinL (cutL cur l) = cur ++ l := by
  induction l with
  | nil => intro cur; simp [cutL, joinL]
  | cons b l ih =>
    intro cur
    unfold cutL
    split
    · rename_i h
      have hne := cutL_ne [] l
      have := ih []
      cases hc : cutL [] l with
      | nil => exact absurd hc hne
      | cons x xs => rw [hc] at this; simp only [joinL]; rw [this, h]; simp
    · rw [ih]; simp
theorem cut_app (a l : List UInt8) (h : ∀ b ∈ a, b ≠ 32) : ∀ cur, cutL cur (a ++ l) = cutL (cur ++ a) l := by
  induction a with
  | nil => intro cur; simp
  | cons b a ih =>
    intro cur
    simp only [List.cons_append]
    rw [cutL, if_neg (h b (by simp)), ih (fun x hx => h x (by simp [hx]))]
    simp
theorem cut_word (a l : List UInt8) (h : ∀ b ∈ a, b ≠ 32) : cutL [] (a ++ 32 :: l) = a :: cutL [] l := by
  rw [cut_app a _ h]; simp [cutL]
theorem cut_last (a : List UInt8) (h : ∀ b ∈ a, b ≠ 32) : cutL [] a = [a] := by
  have := cut_app a [] h []
  simpa [cutL] using this
theorem fld_app (a l : List UInt8) (h : ∀ b ∈ a, Lib.isSp b = false) : ∀ cur, Lib.fieldsGo cur (a ++ l) = Lib.fieldsGo (cur ++ a) l := by
  induction a with
  | nil => intro cur; simp
  | cons b a ih =>
    intro cur
    simp only [List.cons_append]
    rw [Lib.fieldsGo, h b (by simp)]
    simp only [Bool.false_eq_true, if_false]
    rw [ih (fun x hx => h x (by simp [hx]))]; simp
theorem fld_word (a l : List UInt8) (hn : a ≠ []) (h : ∀ b ∈ a, Lib.isSp b = false) : Lib.fieldsGo [] (a ++ 32 :: l) = a :: Lib.fieldsGo [] l := by
  rw [fld_app a _ h]
  simp only [List.nil_append]
  rw [Lib.fieldsGo, show Lib.isSp 32 = true from rfl]
  cases a with
  | nil => exact absurd rfl hn
  | cons x a => simp
theorem fld_last (a : List UInt8) (hn : a ≠ []) (h : ∀ b ∈ a, Lib.isSp b = false) : Lib.fieldsGo [] a = [a] := by
  have := fld_app a [] h []
  simp only [List.append_nil, List.nil_append] at this
  rw [this, Lib.fieldsGo]
  cases a with
  | nil => exact absurd rfl hn
  | cons x a => simp

/-- A grant: its name, its holder, token and expiry. -/
structure Gg where
  nm : ByteArray
  hd : Int
  tk : Int
  ex : Int
def letU (b : UInt8) : Bool := decide (97 ≤ b.toNat ∧ b.toNat ≤ 122 ∨ 65 ≤ b.toNat ∧ b.toNat ≤ 90 ∨ b.toNat = 95)
def wrd : List UInt8 := [103, 114, 97, 110, 116]
/-- A grant's text. -/
def txL (n : List UInt8) (h k e : Int) : List UInt8 := wrd ++ 32 :: (n ++ 32 :: (itoa h ++ 32 :: (itoa k ++ 32 :: itoa e)))
def tx (g : Gg) : ByteArray := ⟨(txL g.nm.data.toList g.hd g.tk g.ex).toArray⟩
/-- Names have letters and digits alone. -/
def Nmd (l : List UInt8) : Prop := l ≠ [] ∧ ∀ b ∈ l, letU b = true ∨ isD b = true
def Rng (h k e : Int) : Prop := 0 ≤ h ∧ h < 1000000000000000000 ∧ 0 ≤ k ∧ k < 1000000000000000000 ∧ 0 ≤ e ∧ e < 1000000000000000000
theorem sp_no {b : UInt8} (h : letU b = true ∨ isD b = true) : b ≠ 32 ∧ Lib.isSp b = false ∧ b.toNat < 128 := by
  have hb : 48 ≤ b.toNat ∧ b.toNat < 128 := by
    rcases h with h | h
    · unfold letU at h; rw [decide_eq_true_eq] at h; omega
    · unfold isD at h; simp only [Bool.and_eq_true, decide_eq_true_eq] at h; omega
  have ne : ∀ c : UInt8, c.toNat < 48 → (b == c) = false := fun c hc => by
    rw [beq_eq_false_iff_ne]; intro e; rw [e] at hb; omega
  refine ⟨fun e => by have := ne 32 (by decide); simp [e] at this, ?_, hb.2⟩
  unfold Lib.isSp
  rw [ne 9 (by decide), ne 10 (by decide), ne 11 (by decide), ne 12 (by decide), ne 13 (by decide), ne 32 (by decide)]
  rfl
theorem wrd_ok : ∀ b ∈ wrd, letU b = true := by decide
theorem cut_txt (n : List UInt8) (h k e : Int) (hn : Nmd n) (hr : Rng h k e) : cutL [] (txL n h k e) = [wrd, n, itoa h, itoa k, itoa e] := by
  unfold txL
  rw [cut_word _ _ (fun b hb => (sp_no (.inl (wrd_ok b hb))).1), cut_word _ _ (fun b hb => (sp_no (hn.2 b hb)).1), cut_word _ _ (fun b hb => (sp_no (.inr (itoa_all h hr.1 b hb))).1), cut_word _ _ (fun b hb => (sp_no (.inr (itoa_all k hr.2.2.1 b hb))).1), cut_last _ (fun b hb => (sp_no (.inr (itoa_all e hr.2.2.2.2.1 b hb))).1)]
theorem fld_txt (n : List UInt8) (h k e : Int) (hn : Nmd n) (hr : Rng h k e) : Lib.fields (txL n h k e) = [wrd, n, itoa h, itoa k, itoa e] := by
  unfold txL Lib.fields
  rw [fld_word _ _ (by decide) (fun b hb => (sp_no (.inl (wrd_ok b hb))).2.1), fld_word _ _ hn.1 (fun b hb => (sp_no (hn.2 b hb)).2.1), fld_word _ _ (itoa_ne h hr.1) (fun b hb => (sp_no (.inr (itoa_all h hr.1 b hb))).2.1), fld_word _ _ (itoa_ne k hr.2.2.1) (fun b hb => (sp_no (.inr (itoa_all k hr.2.2.1 b hb))).2.1), fld_last _ (itoa_ne e hr.2.2.2.2.1) (fun b hb => (sp_no (.inr (itoa_all e hr.2.2.2.2.1 b hb))).2.1)]
theorem txt_ascii (n : List UInt8) (h k e : Int) (hn : Nmd n) (hr : Rng h k e) : ∀ b ∈ txL n h k e, b.toNat < 128 := by
  intro b hb
  unfold txL at hb
  simp only [List.mem_append, List.mem_cons] at hb
  have h32 : ∀ {b : UInt8}, b = 32 → b.toNat < 128 := fun e => by rw [e]; decide
  rcases hb with hb | hb | hb | hb | hb | hb | hb | hb | hb
  · exact (sp_no (.inl (wrd_ok b hb))).2.2
  · exact h32 hb
  · exact (sp_no (hn.2 b hb)).2.2
  · exact h32 hb
  · exact (sp_no (.inr (itoa_all h hr.1 b hb))).2.2
  · exact h32 hb
  · exact (sp_no (.inr (itoa_all k hr.2.2.1 b hb))).2.2
  · exact h32 hb
  · exact (sp_no (.inr (itoa_all e hr.2.2.2.2.1 b hb))).2.2
def baL (l : List UInt8) : ByteArray := ⟨l.toArray⟩
theorem baL_list (l : List UInt8) : (baL l).data.toList = l := rfl
theorem baL_back (s : ByteArray) : baL s.data.toList = s := rfl
/-- What words behind the first tell: the grant, if it is right (by ok). -/
def gOf (ok : Gg → Bool) (w1 w2 w3 w4 : List UInt8) : Option Gg :=
  match nm w2, nm w3, nm w4 with
  | some a, some b, some c => if ok ⟨baL w1, a, b, c⟩ then some ⟨baL w1, a, b, c⟩ else none
  | _, _, _ => none
/-- What the specification reads. -/
def rsp (ok : Gg → Bool) (t : ByteArray) : Option Gg :=
  match cutL [] t.data.toList with
  | [w0, w1, w2, w3, w4] => if w0 = wrd then gOf ok w1 w2 w3 w4 else none
  | _ => none
/-- What the program reads. -/
def rim (ok : Gg → Bool) (fs : List (List UInt8)) (t : ByteArray) : Option Gg :=
  match fs with
  | [_, w1, w2, w3, w4] => match gOf ok w1 w2 w3 w4 with
    | some g => if tx g = t then some g else none
    | none => none
  | _ => none
theorem gOf_some {ok : Gg → Bool} {w1 w2 w3 w4 : List UInt8} {g : Gg} (h : gOf ok w1 w2 w3 w4 = some g) : g.nm = baL w1 ∧ nm w2 = some g.hd ∧ nm w3 = some g.tk ∧ nm w4 = some g.ex ∧ ok g = true := by
  unfold gOf at h
  split at h
  · rename_i a b c e1 e2 e3
    split at h
    · rename_i ho; injection h with h; subst h; exact ⟨rfl, e1, e2, e3, ho⟩
    · cases h
  · cases h
theorem gOf_txt {ok : Gg → Bool} {g : Gg} (hr : Rng g.hd g.tk g.ex) (ho : ok g = true) : gOf ok g.nm.data.toList (itoa g.hd) (itoa g.tk) (itoa g.ex) = some g := by
  unfold gOf
  rw [nm_itoa _ hr.1 hr.2.1, nm_itoa _ hr.2.2.1 hr.2.2.2.1, nm_itoa _ hr.2.2.2.2.1 hr.2.2.2.2.2]
  exact if_pos ho
/-- Both read just a right grant's own text. -/
theorem rsp_iff (ok : Gg → Bool) (hok : ∀ g, ok g = true → Nmd g.nm.data.toList ∧ Rng g.hd g.tk g.ex) (t : ByteArray) (g : Gg) : rsp ok t = some g ↔ ok g = true ∧ tx g = t := by
  constructor
  · intro h
    unfold rsp at h
    split at h
    · rename_i w0 w1 w2 w3 w4 hc
      split at h
      · rename_i h0
        obtain ⟨e1, e2, e3, e4, e5⟩ := gOf_some h
        refine ⟨e5, ?_⟩
        have hr := (hok g e5).2
        have hj := join_cut t.data.toList []
        rw [hc] at hj
        simp only [joinL, List.nil_append] at hj
        have hn : g.nm.data.toList = w1 := by rw [e1]; rfl
        have : txL g.nm.data.toList g.hd g.tk g.ex = t.data.toList := by
          unfold txL
          rw [hn, itoa_nm _ _ e2 hr.1, itoa_nm _ _ e3 hr.2.2.1, itoa_nm _ _ e4 hr.2.2.2.2.1, ← h0]
          exact hj
        unfold tx; rw [this]
      · cases h
    · cases h
  · rintro ⟨ho, rfl⟩
    obtain ⟨hn, hr⟩ := hok g ho
    unfold rsp
    rw [show (tx g).data.toList = txL g.nm.data.toList g.hd g.tk g.ex from rfl, cut_txt _ _ _ _ hn hr]
    simp only [if_true]
    exact gOf_txt hr ho
theorem rim_iff (ok : Gg → Bool) (hok : ∀ g, ok g = true → Nmd g.nm.data.toList ∧ Rng g.hd g.tk g.ex) (fs : List (List UInt8)) (t : ByteArray) (hfs : (∀ b ∈ t.data.toList, b.toNat < 128) → fs = Lib.fields t.data.toList) (g : Gg) : rim ok fs t = some g ↔ ok g = true ∧ tx g = t := by
  constructor
  · intro h
    unfold rim at h
    split at h
    · rename_i w0 w1 w2 w3 w4
      split at h
      · rename_i g' h0
        obtain ⟨_, _, _, _, e5⟩ := gOf_some h0
        split at h
        · rename_i ht; injection h with h; subst h; exact ⟨e5, ht⟩
        · cases h
      · cases h
    · cases h
  · rintro ⟨ho, rfl⟩
    obtain ⟨hn, hr⟩ := hok g ho
    have e : fs = [wrd, g.nm.data.toList, itoa g.hd, itoa g.tk, itoa g.ex] := by
      rw [hfs (by exact txt_ascii _ _ _ _ hn hr)]
      exact fld_txt _ _ _ _ hn hr
    unfold rim
    rw [e]
    simp only [gOf_txt hr ho, if_true]
theorem rim_rsp (ok : Gg → Bool) (hok : ∀ g, ok g = true → Nmd g.nm.data.toList ∧ Rng g.hd g.tk g.ex) (fs : List (List UInt8)) (t : ByteArray) (hfs : (∀ b ∈ t.data.toList, b.toNat < 128) → fs = Lib.fields t.data.toList) : rim ok fs t = rsp ok t := by
  cases h : rsp ok t with
  | some g => exact (rim_iff ok hok fs t hfs g).2 ((rsp_iff ok hok t g).1 h)
  | none =>
    cases h2 : rim ok fs t with
    | none => rfl
    | some g => rw [(rsp_iff ok hok t g).2 ((rim_iff ok hok fs t hfs g).1 h2)] at h; cases h
end Go.Proofs.Ytlhokhccjejcoaa.Gr12
