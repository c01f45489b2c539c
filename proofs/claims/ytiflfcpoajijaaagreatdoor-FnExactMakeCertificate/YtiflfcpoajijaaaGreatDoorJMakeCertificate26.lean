/- Texts put together: Cfg, Cfh, So, Cfi. -/
import Derived.Test.YtiflfcpoajijaaaGreatDoorJMakeCertificate22
import Derived.Test.YtiflfcpoajijaaaGreatDoorJMakeCertificate15
import Derived.Deep.Upon
import Derived.Maps.AppendAt
import Derived.Test.YtiflfcpoajijaaaGreatDoorIs
import Derived.Laws.AppendOwn
import Derived.Lib.SmallJoins
import Derived.Test.YtiflfcpoajijaaaGreatDoorJMakeCertificate25
import Derived.Deep.RegionHeldLaw
import Derived.Deep.RegionLaw
import Derived.Laws.MakeOwn
import Derived.Lib.SliceRun
/- Why no certificate is made. -/
namespace Go.Proofs.YtiflfcpoajijaaaGreatDoor.Kc
open Go.RowKit Go.Proofs.YtiflfcpoajijaaaGreatDoor.Sl Go.Proofs.YtiflfcpoajijaaaGreatDoor.By Go.Proofs.YtiflfcpoajijaaaGreatDoor.Ap Go.Proofs.YtiflfcpoajijaaaGreatDoor.Tx Go.Proofs.YtiflfcpoajijaaaGreatDoor.Sh Go.Proofs.YtiflfcpoajijaaaGreatDoor.Ho Go.Proofs.YtiflfcpoajijaaaGreatDoor.Se Go.Proofs.YtiflfcpoajijaaaGreatDoor.Ka Go.Proofs.YtiflfcpoajijaaaGreatDoor.Sx Go.Proofs.YtiflfcpoajijaaaGreatDoor.Hf Go.Proofs.YtiflfcpoajijaaaGreatDoor.Sa Go.Proofs.YtiflfcpoajijaaaGreatDoor.Kx Go.Proofs.YtiflfcpoajijaaaGreatDoor.Lv Go.Proofs.YtiflfcpoajijaaaGreatDoor.Cr Go.Proofs.YtiflfcpoajijaaaGreatDoor.Ns
open Go.Proofs.YtiflfcpoajijaaaGreatDoor.Cs (vC)
open Go.Proofs.YtiflfcpoajijaaaGreatDoor.Tm (fOut fCode)
open Go.Proofs.YtiflfcpoajijaaaGreatDoor.Xq (RowJ rnB rnM rn_iff isV isV_frn okN Rise)
open Go.Proofs.YtiflfcpoajijaaaGreatDoor.Rg (RowG Stays)
open Go.Proofs.YtiflfcpoajijaaaGreatDoor.Is (RowI eqIntS_same)
open Go.Proofs.YtiflfcpoajijaaaGreatDoor.Gr12 (implGrantOK_any Gg gV grB grB_parts grB_ok nmd_of tx tx_small specGrantOK_any l12Text_any)

/-- The code of a certificate that is to be made. -/
noncomputable def mfC (n : Int) (g : Gg) (ns : List Int) (ix : Int) : Int := if 4096 < ns.length then 2 else if grB g = true then (if inR ix 0 7 = true then cfC n ns else 4) else 1
set_option maxRecDepth 100000 in
set_option maxHeartbeats 1600000 in
theorem makingFault_any (n : Int) (g : Gg) (v : Value) (ns : List Int) (ix : Int) (w : World) (zg : g.nm.size ≤ maxLen) (h : RowI w v ns) (hl : ns.length ≤ 1048576) :
    Calls Tryz.prog 26 #[.int .i64 n, gV g, v, .int .i64 ix] w fun e w' => e = .returned (.int .i64 (mfC n g ns ix)) ∧ Below w.heap.size w w' := by
  have HO : Hid (∀ W, Calls Tryz.prog 53 #[.agg #[.string g.nm, .int .i64 g.hd, .int .i64 g.tk, .int .i64 g.ex]] W fun e w' => e = .returned (.bool (grB g)) ∧ Below W.heap.size W w') := fun W => implGrantOK_any g W zg
  have HKX : Hid (∀ W, Calls Tryz.prog 54 #[.int .i64 ix] W fun e w' => e = .returned (.bool (inR ix 0 7)) ∧ W = w') := fun W => keyIndexOK_any ix W
  have HCF : Hid (∀ W, Below w.heap.size w W → Calls Tryz.prog 29 #[.int .i64 n, v] W fun e w' => e = .returned (.int .i64 (cfC n ns)) ∧ W = w') := fun W hW => certifiersFault_any n v ns W (h.below hW) hl
  obtain ⟨a, cap, rfl, _⟩ := h
  clear zg
  have HX : Hid (∀ W, Below (w.alloc (.cells #[.string g.nm, .int .i64 g.hd, .int .i64 g.tk, .int .i64 g.ex] 24)).heap.size (w.alloc (.cells #[.string g.nm, .int .i64 g.hd, .int .i64 g.tk, .int .i64 g.ex] 24)) W → (W.cell? ⟨w.heap.size, 0, none⟩ = some (.string g.nm) ∧ W.cell? ⟨w.heap.size, 1, none⟩ = some (.int .i64 g.hd) ∧ W.cell? ⟨w.heap.size, 2, none⟩ = some (.int .i64 g.tk) ∧ W.cell? ⟨w.heap.size, 3, none⟩ = some (.int .i64 g.ex)) ∧ Below w.heap.size w W) := fun W hW => by
    have h1 := (hW.block w.heap.size (by simp)).trans (heap_alloc_new w _)
    exact ⟨⟨by simp [World.cell?, h1], by simp [World.cell?, h1], by simp [World.cell?, h1], by simp [World.cell?, h1]⟩, (Rg.bel_new w _).trans (hW.mono (by simp))⟩
  unfold gV
  by_cases hb : 4096 < ns.length
  · have HE : Hid (mfC n g ns ix = 2) := by show _ = _; unfold mfC; rw [if_pos hb]
    have hb' : (4096 : Int) < (ns.length : Int) := by omega
    clear hb
    go_enter Tryz.func26, Tryz.ntmps26
    go_upto_region 1 with fail
    generalize w.alloc (.cells #[.string g.nm, .int .i64 g.hd, .int .i64 g.tk, .int .i64 g.ex] 24) = wb at HX ⊢
    obtain ⟨⟨c0, c1, c2, c3⟩, g0⟩ := HX.out wb (Below.refl _ _)
    have G0 : Hid (Below w.heap.size w wb) := g0
    clear g0
    go_wp2_with fail
    go_ret
    exact ⟨ret_in HE.out.symm, G0.out⟩
  have hb' : ¬ (4096 : Int) < (ns.length : Int) := by omega
  cases hg : grB g with
  | false =>
    have HE : Hid (mfC n g ns ix = 1) := by show _ = _; unfold mfC; rw [if_neg hb, hg]; rfl
    rw [hg] at HO
    clear hg hb
    go_enter Tryz.func26, Tryz.ntmps26
    go_upto_region 1 with fail
    generalize w.alloc (.cells #[.string g.nm, .int .i64 g.hd, .int .i64 g.tk, .int .i64 g.ex] 24) = wb at HX ⊢
    obtain ⟨⟨c0, c1, c2, c3⟩, g0⟩ := HX.out wb (Below.refl _ _)
    have G0 : Hid (Below w.heap.size w wb) := g0
    clear g0
    go_wp2_with fail
    refine (HO.out _).mono ?_
    rintro e w1 ⟨rfl, b1⟩
    have G1 : Hid (Below w.heap.size w w1) := G0.out.trans (b1.mono G0.out.size)
    clear b1 c0 c1 c2 c3 HX HO
    go_wp2_with fail
    go_ret
    exact ⟨ret_in HE.out.symm, G1.out⟩
  | true =>
    rw [hg] at HO
    cases hi : inR ix 0 7 with
    | false =>
      have HE : Hid (mfC n g ns ix = 4) := by show _ = _; unfold mfC; rw [if_neg hb, if_pos hg, hi]; rfl
      rw [hi] at HKX
      clear hg hb hi
      go_enter Tryz.func26, Tryz.ntmps26
      go_upto_region 1 with fail
      generalize w.alloc (.cells #[.string g.nm, .int .i64 g.hd, .int .i64 g.tk, .int .i64 g.ex] 24) = wb at HX ⊢
      obtain ⟨⟨c0, c1, c2, c3⟩, g0⟩ := HX.out wb (Below.refl _ _)
      have G0 : Hid (Below w.heap.size w wb) := g0
      clear g0
      go_wp2_with fail
      refine (HO.out _).mono ?_
      rintro e w1 ⟨rfl, b1⟩
      have G1 : Hid (Below w.heap.size w w1) := G0.out.trans (b1.mono G0.out.size)
      clear b1 c0 c1 c2 c3 HX HO
      go_wp2_with (first | (go_at_call 54; refine (HKX.out _).mono ?_; rintro e w2 ⟨rfl, rfl⟩))
      go_ret
      exact ⟨ret_in HE.out.symm, G1.out⟩
    | true =>
      have HE : Hid (mfC n g ns ix = cfC n ns) := by show _ = _; unfold mfC; rw [if_neg hb, if_pos hg, if_pos hi]
      rw [hi] at HKX
      clear hg hb hi
      generalize cfC n ns = cc at HE HCF
      go_enter Tryz.func26, Tryz.ntmps26
      go_upto_region 1 with fail
      generalize w.alloc (.cells #[.string g.nm, .int .i64 g.hd, .int .i64 g.tk, .int .i64 g.ex] 24) = wb at HX ⊢
      obtain ⟨⟨c0, c1, c2, c3⟩, g0⟩ := HX.out wb (Below.refl _ _)
      have G0 : Hid (Below w.heap.size w wb) := g0
      clear g0
      go_wp2_with fail
      refine (HO.out _).mono ?_
      rintro e w1 ⟨rfl, b1⟩
      have G1 : Hid (Below w.heap.size w w1) := G0.out.trans (b1.mono G0.out.size)
      clear b1 c0 c1 c2 c3 HX HO
      go_wp2_with (first | (go_at_call 54; refine (HKX.out _).mono ?_; rintro e w2 ⟨rfl, rfl⟩) | (go_at_call 29; refine (HCF.out _ G1.out).mono ?_; rintro e w2 ⟨rfl, rfl⟩))
      go_ret
      exact ⟨ret_in HE.out.symm, G1.out⟩
end Go.Proofs.YtiflfcpoajijaaaGreatDoor.Kc

/- Signatures of one's own, in a slice. -/
namespace Go.Proofs.YtiflfcpoajijaaaGreatDoor.Kc
open Go.RowKit Go.Proofs.YtiflfcpoajijaaaGreatDoor.Sl Go.Proofs.YtiflfcpoajijaaaGreatDoor.Ap Go.Proofs.YtiflfcpoajijaaaGreatDoor.Tx
open Go.Proofs.YtiflfcpoajijaaaGreatDoor.Rg (RowG Stays)

/-- A signature's cells: a number and three slices. -/
structure Sv where
  i : Int
  a1 : Option Addr
  n1 : Nat
  c1 : Nat
  a2 : Option Addr
  n2 : Nat
  c2 : Nat
  a3 : Option Addr
  n3 : Nat
  c3 : Nat
def clK (p : Sv) : List Value := [.int .i64 p.i, .slice p.a1 p.n1 p.c1, .slice p.a2 p.n2 p.c2, .slice p.a3 p.n3 p.c3]
theorem oneK (p : Sv) : ∀ u ∈ clK p, u.oneCell' = true := by
  intro u hu
  simp [clK] at hu
  rcases hu with rfl | rfl | rfl | rfl
  all_goals rfl
theorem lenK : ∀ (ms : List Sv), (ms.flatMap clK).length = ms.length * 4
  | [] => rfl
  | x :: r => by rw [List.flatMap_cons, List.length_append, lenK r]; show 4 + _ = _; simp only [List.length_cons]; omega
theorem atK : ∀ (ms : List Sv) (i : Nat) (x : Sv) (j : Nat), ms[i]? = some x → j < 4 → (ms.flatMap clK)[i * 4 + j]? = (clK x)[j]?
  | [], i, x, j, h, _ => by simp at h
  | y :: r, 0, x, j, h, hj => by
    simp at h; subst h
    rw [List.flatMap_cons, List.getElem?_append_left (by show _ < 4; omega)]
    simp
  | y :: r, i + 1, x, j, h, hj => by
    have h' : r[i]? = some x := by simpa using h
    rw [List.flatMap_cons, List.getElem?_append_right (by show 4 ≤ _; omega)]
    rw [show (i + 1) * 4 + j - (clK y).length = i * 4 + j by show _ - 4 = _; omega]
    exact atK r i x j h' hj
theorem memK (ms : List Sv) : ∀ u ∈ ms.flatMap clK, u.oneCell' = true := by
  intro u hu
  obtain ⟨x, _, hx⟩ := List.mem_flatMap.1 hu
  exact oneK x u hx
def OwnK (w : World) (B : Nat) (v : Value) (ms : List Sv) : Prop := w.ownsRow B 37 4 v ms.length (ms.flatMap clK)
theorem OwnK.kept {w w' : World} {B : Nat} {v : Value} {ms : List Sv} (h : OwnK w B v ms) (hk : ∀ g, v.ownBlock = some g → w'.heap[g]? = w.heap[g]?) : OwnK w' B v ms := by
  obtain ⟨hl, h⟩ := h
  refine ⟨hl, ?_⟩
  rcases h with h | ⟨g, cap, cur, rfl, h1, hg, h2⟩
  · exact .inl h
  · exact .inr ⟨g, cap, cur, rfl, h1, (hk g rfl).trans hg, h2⟩
theorem OwnK.lt {w : World} {B : Nat} {v : Value} {ms : List Sv} (h : OwnK w B v ms) : ∀ g, v.ownBlock = some g → B ≤ g ∧ g < w.heap.size := World.ownsRow.lt h
theorem OwnK.below {w w' : World} {B : Nat} {v : Value} {ms : List Sv} (h : OwnK w B v ms) (hb : Below w.heap.size w w') : OwnK w' B v ms := h.kept fun g hg => hb.block g (h.lt g hg).2
theorem OwnK.alloc {w : World} {B : Nat} {v : Value} {ms : List Sv} (h : OwnK w B v ms) (o : Obj) : OwnK (w.alloc o) B v ms := h.below ((Below.refl _ _).alloc (Nat.le_refl _) _)
theorem OwnK.made (w : World) (B : Nat) (hB : B ≤ w.heap.size) : OwnK (w.alloc (.cells #[] 37)) B (.slice (some ⟨w.heap.size, 0, none⟩) 0 0) [] := World.ownsRow_made w #[] 0 hB (by decide) rfl
theorem OwnK.nil (w : World) (B : Nat) : OwnK w B (.slice none 0 0) [] := World.ownsRow_nil _ _ _ _
theorem OwnK.slice {w : World} {B : Nat} {v : Value} {ms : List Sv} (h : OwnK w B v ms) : ∃ a cap, v = .slice a ms.length cap := by
  obtain ⟨_, h | ⟨g, cap, cur, he, _⟩⟩ := h
  · exact ⟨none, 0, by rw [h.1, h.2]⟩
  · exact ⟨_, cap, he⟩
theorem OwnK.mono {w : World} {B B' : Nat} {v : Value} {ms : List Sv} (h : OwnK w B v ms) (hb : B' ≤ B) : OwnK w B' v ms := by
  obtain ⟨hl, h⟩ := h
  refine ⟨hl, ?_⟩
  rcases h with h | ⟨g, cap, cur, rfl, h1, hg, h2⟩
  · exact .inl h
  · exact .inr ⟨g, cap, cur, rfl, Nat.le_trans hb h1, hg, h2⟩
/-- The cells of signatures hold these signatures, whose texts lie from B on. -/
def Holds (B : Nat) (w : World) (ps : List Sv) (ks : List Ks) : Prop := ps.length = ks.length ∧ ∀ (j : Nat) (p : Sv) (k : Ks), ps[j]? = some p → ks[j]? = some k → p.i = k.i ∧ RowT w (.slice p.a1 p.n1 p.c1) k.a ∧ RowT w (.slice p.a2 p.n2 p.c2) k.b ∧ RowT w (.slice p.a3 p.n3 p.c3) k.c ∧ From B (.slice p.a1 p.n1 p.c1) ∧ From B (.slice p.a2 p.n2 p.c2) ∧ From B (.slice p.a3 p.n3 p.c3)
theorem Holds.nil (B : Nat) (w : World) : Holds B w [] [] := ⟨rfl, fun j p k h => by simp at h⟩
theorem Holds.below {B : Nat} {w w' : World} {ps : List Sv} {ks : List Ks} (h : Holds B w ps ks) (hb : Below w.heap.size w w') : Holds B w' ps ks := ⟨h.1, fun j p k hp hk => by
  obtain ⟨e, r1, r2, r3, f⟩ := h.2 j p k hp hk
  exact ⟨e, r1.below hb, r2.below hb, r3.below hb, f⟩⟩
theorem Holds.set {B : Nat} {w : World} {ps : List Sv} {ks : List Ks} {q j : Nat} {x : Value} (h : Holds B w ps ks) (hq : q < B) : Holds B (w.setCell ⟨q, j, none⟩ x) ps ks := ⟨h.1, fun j' p k hp hk => by
  obtain ⟨e, r1, r2, r3, f1, f2, f3⟩ := h.2 j' p k hp hk
  exact ⟨e, row_low r1 f1 hq, row_low r2 f2 hq, row_low r3 f3 hq, f1, f2, f3⟩⟩
theorem Holds.snoc {B : Nat} {w : World} {ps : List Sv} {ks : List Ks} {p : Sv} {k : Ks} (h : Holds B w ps ks) (e : p.i = k.i) (r1 : RowT w (.slice p.a1 p.n1 p.c1) k.a) (r2 : RowT w (.slice p.a2 p.n2 p.c2) k.b) (r3 : RowT w (.slice p.a3 p.n3 p.c3) k.c) (f1 : From B (.slice p.a1 p.n1 p.c1)) (f2 : From B (.slice p.a2 p.n2 p.c2)) (f3 : From B (.slice p.a3 p.n3 p.c3)) : Holds B w (ps ++ [p]) (ks ++ [k]) := by
  refine ⟨by simp [h.1], fun j p' k' hp hk => ?_⟩
  by_cases hj : j < ps.length
  · rw [List.getElem?_append_left hj] at hp
    rw [List.getElem?_append_left (by rw [← h.1]; exact hj)] at hk
    exact h.2 j p' k' hp hk
  · have hj1 : j < (ps ++ [p]).length := (List.getElem?_eq_some_iff.1 hp).1
    have hj2 : j = ps.length := by simp at hj1; omega
    subst hj2
    rw [List.getElem?_append_right (Nat.le_refl _)] at hp
    rw [h.1, List.getElem?_append_right (Nat.le_refl _)] at hk
    simp at hp hk
    subst hp hk
    exact ⟨e, r1, r2, r3, f1, f2, f3⟩
theorem OwnK.row {w : World} {B B' : Nat} {v : Value} {ps : List Sv} {ks : List Ks} (h : OwnK w B v ps) (hh : Holds B' w ps ks) : Row w v ks := by
  obtain ⟨hl, h⟩ := h
  rcases h with ⟨rfl, h0⟩ | ⟨g, cap, cur, rfl, hB, hg, hc, _, hs, htk⟩
  · have hk0 : ks.length = 0 := by rw [← hh.1]; exact h0
    exact ⟨none, 0, by rw [hk0], .inl (List.length_eq_zero_iff.1 hk0)⟩
  · refine ⟨_, cap, by rw [hh.1], .inr ⟨g, 0, rfl, by rw [← hh.1]; exact hc, (Array.getElem?_eq_some_iff.1 hg).1, fun i y hi => ?_⟩⟩
    have hil := (List.getElem?_eq_some_iff.1 hi).1
    obtain ⟨x, hx⟩ := Rg.get_at (xs := ps) (k := i) (by rw [hh.1]; exact hil)
    obtain ⟨e, r1, r2, r3, _⟩ := hh.2 i x y hx hi
    have hlt : i < ps.length := Rg.lt_at hx
    have key : ∀ j u, j < 4 → (clK x)[j]? = some u → w.cell? ⟨g, 0 + i * 4 + j, none⟩ = some u := fun j u hj hu => by
      rw [Nat.zero_add, Joins.cell_of_block hg, ← Array.getElem?_toList]
      have h1 := atK ps i x j hx hj
      rw [← htk, List.getElem?_take, if_pos (by omega)] at h1
      rw [h1, hu]
    have k0 := key 0 _ (by decide) rfl
    rw [e] at k0
    exact ⟨_, _, _, k0, key 1 _ (by decide) rfl, key 2 _ (by decide) rfl, key 3 _ (by decide) rfl, r1, r2, r3⟩
end Go.Proofs.YtiflfcpoajijaaaGreatDoor.Kc

/- Sorting by insertion: what it leaves; spec.l04Sorted. -/
namespace Go.Proofs.YtiflfcpoajijaaaGreatDoor.So
open Go.RowKit Go.Proofs.YtiflfcpoajijaaaGreatDoor.Sl Go.Proofs.YtiflfcpoajijaaaGreatDoor.Is

/-- The elements k and k + 1 change places. -/
def sw : Nat → List Int → List Int
  | 0, a :: b :: r => b :: a :: r
  | k + 1, a :: r => a :: sw k r
  | _, l => l
theorem sw_length : ∀ (k : Nat) (l : List Int), (sw k l).length = l.length
  | 0, [] => rfl
  | 0, [_] => rfl
  | 0, _ :: _ :: _ => rfl
  | _ + 1, [] => rfl
  | k + 1, a :: r => by rw [sw, List.length_cons, List.length_cons, sw_length k r]
theorem sw_perm : ∀ (k : Nat) (l : List Int), (sw k l).Perm l
  | 0, [] => .refl _
  | 0, [_] => .refl _
  | 0, a :: b :: r => .swap a b r
  | _ + 1, [] => .refl _
  | k + 1, a :: r => .cons a (sw_perm k r)
theorem nth_cons_succ (a : Int) (r : List Int) (p : Nat) : nth (a :: r) (p + 1) = nth r p := by unfold nth; simp
theorem sw_nth : ∀ (k : Nat) (l : List Int) (p : Nat), k + 1 < l.length → nth (sw k l) p = if p = k then nth l (k + 1) else if p = k + 1 then nth l k else nth l p
  | 0, a :: b :: r, p, _ => by
    match p with
    | 0 => rfl
    | 1 => rfl
    | p + 2 => rw [if_neg (by omega), if_neg (by omega)]; rfl
  | k + 1, a :: r, p, h => by
    rw [sw]
    match p with
    | 0 => rw [if_neg (by omega), if_neg (by omega)]; rfl
    | p + 1 =>
      rw [nth_cons_succ, nth_cons_succ, nth_cons_succ, nth_cons_succ, sw_nth k r p (by simpa using h)]
      simp only [Nat.add_right_cancel_iff]
theorem sw_k {k : Nat} {l : List Int} (h : k + 1 < l.length) : nth (sw k l) k = nth l (k + 1) := by rw [sw_nth k l k h, if_pos rfl]
theorem sw_k1 {k : Nat} {l : List Int} (h : k + 1 < l.length) : nth (sw k l) (k + 1) = nth l k := by rw [sw_nth k l (k + 1) h, if_neg (Nat.succ_ne_self k), if_pos rfl]
theorem sw_o {k p : Nat} {l : List Int} (h : k + 1 < l.length) (h1 : p ≠ k) (h2 : p ≠ k + 1) : nth (sw k l) p = nth l p := by rw [sw_nth k l p h, if_neg h1, if_neg h2]
/-- The first m of them are in order. -/
def Asc (m : Nat) (ys : List Int) : Prop := ∀ p q, p < q → q < m → nth ys p ≤ nth ys q
/-- The first m of them are in order, but for the one at k, which those behind it are not below. -/
def Ins (k m : Nat) (ys : List Int) : Prop := ∀ p q, p < q → q < m → q ≠ k → nth ys p ≤ nth ys q
theorem Asc.ins {m : Nat} {ys : List Int} (h : Asc m ys) : Ins m (m + 1) ys := fun p q h1 h2 h3 => h p q h1 (by omega)
theorem Ins.done {k m : Nat} {ys : List Int} (h : Ins k m ys) (hk : k = 0 ∨ nth ys (k - 1) ≤ nth ys k) : Asc m ys := by
  intro p q h1 h2
  by_cases e : q = k
  · subst e
    rcases hk with hk | hk
    · omega
    · by_cases e2 : p = q - 1
      · subst e2; exact hk
      · exact Int.le_trans (h p (q - 1) (by omega) (by omega) (by omega)) hk
  · exact h p q h1 h2 e
theorem Ins.step {k m : Nat} {ys : List Int} (h : Ins (k + 1) m ys) (hm : k + 1 < m) (hl : k + 1 < ys.length) (hgt : nth ys (k + 1) < nth ys k) : Ins k m (sw k ys) := by
  intro p q h1 h2 h3
  by_cases e1 : q = k + 1
  · subst e1
    rw [sw_k1 hl]
    by_cases e2 : p = k
    · subst e2; rw [sw_k hl]; omega
    · rw [sw_o hl e2 (by omega)]
      exact h p k (by omega) (by omega) (by omega)
  · rw [sw_o hl h3 e1]
    by_cases e2 : p = k
    · subst e2; rw [sw_k hl]
      exact h (p + 1) q (by omega) h2 e1
    · by_cases e3 : p = k + 1
      · subst e3; rw [sw_k1 hl]
        exact h k q (by omega) h2 e1
      · rw [sw_o hl e2 e3]; exact h p q h1 h2 e1
/-- Two lists in order with the same elements are the same. -/
theorem asc_pair {ys : List Int} (h : Asc ys.length ys) : ys.Pairwise (· ≤ ·) := by
  rw [List.pairwise_iff_getElem]
  intro i j hi hj hij
  have := h i j hij hj
  unfold nth at this
  rwa [List.getD_eq_getElem?_getD, List.getD_eq_getElem?_getD, List.getElem?_eq_getElem hi, List.getElem?_eq_getElem hj] at this
theorem asc_same {xs ys : List Int} (hx : xs.Pairwise (· ≤ ·)) (hy : ys.Pairwise (· ≤ ·)) (h : xs.Perm ys) : xs = ys :=
  h.eq_of_pairwise (fun _ _ _ _ h1 h2 => Int.le_antisymm h1 h2) hx hy

/-- The block g is a row of integers of the call's own: ys stand first. -/
def BlkI (w : World) (g cap : Nat) (ys : List Int) : Prop :=
  ∃ cur, w.heap[g]? = some (.cells cur 3 (0, 0)) ∧ cur.size = cap ∧ ys.length ≤ cap ∧ cap ≤ maxLen ∧ ∀ i, i < ys.length → cur[i]? = some (.int .i64 (nth ys i))
theorem BlkI.cell {w : World} {g cap : Nat} {ys : List Int} (h : BlkI w g cap ys) {i : Nat} (hi : i < ys.length) : w.cell? ⟨g, i, none⟩ = some (.int .i64 (nth ys i)) ∧ w.frozen? ⟨g, i, none⟩ = false := by
  obtain ⟨cur, h1, _, _, _, h2⟩ := h
  exact ⟨(Joins.cell_of_block h1 i).trans (h2 i hi), by simp [World.frozen?, h1]⟩
theorem BlkI.lt {w : World} {g cap : Nat} {ys : List Int} (h : BlkI w g cap ys) : g < w.heap.size := by
  obtain ⟨cur, h1, _⟩ := h
  exact (Array.getElem?_eq_some_iff.1 h1).1
theorem BlkI.of {w : World} {B g n cap : Nat} {ys : List Int} (h : OwnI w B (.slice (some ⟨g, 0, none⟩) n cap) ys) : BlkI w g cap ys ∧ n = ys.length ∧ B ≤ g := by
  obtain ⟨hl, h⟩ := h
  rcases h with ⟨h0, _⟩ | ⟨g', cap', cur, hv, hB, hg, hc, hm, hs, htk⟩
  · cases h0
  · cases hv
    refine ⟨⟨cur, hg, by omega, hc, hm, fun i hi => ?_⟩, rfl, hB⟩
    have h1 : (cur.toList.take (ys.length * 1))[i]? = some (.int .i64 (nth ys i)) := by rw [htk, List.getElem?_map, nth_at hi]; rfl
    rw [List.getElem?_take] at h1
    split at h1
    · simpa using h1
    · cases h1
theorem BlkI.own {w : World} {B g cap : Nat} {ys : List Int} (h : BlkI w g cap ys) (hB : B ≤ g) : OwnI w B (.slice (some ⟨g, 0, none⟩) ys.length cap) ys := by
  obtain ⟨cur, h1, h2, h3, h4, h5⟩ := h
  refine ⟨by simp, .inr ⟨g, cap, cur, rfl, hB, h1, h3, h4, by omega, ?_⟩⟩
  apply List.ext_getElem?
  intro i
  rw [List.getElem?_take, List.getElem?_map]
  by_cases hi : i < ys.length
  · rw [if_pos (by omega), nth_at hi, Array.getElem?_toList, h5 i hi]; rfl
  · rw [if_neg (by omega), List.getElem?_eq_none (by omega)]; rfl
theorem BlkI.swap {w : World} {g cap k : Nat} {ys : List Int} (h : BlkI w g cap ys) (hk : k + 1 < ys.length) :
    BlkI ((w.setCell ⟨g, k + 1, none⟩ (.int .i64 (nth ys k))).setCell ⟨g, k, none⟩ (.int .i64 (nth ys (k + 1)))) g cap (sw k ys) := by
  obtain ⟨cur, h1, h2, h3, h4, h5⟩ := h
  refine ⟨(cur.setIfInBounds (k + 1) (.int .i64 (nth ys k))).setIfInBounds k (.int .i64 (nth ys (k + 1))), Joins.block_setCell (i := k) (Joins.block_setCell (i := k + 1) h1 _) _, by simpa using h2, by rw [sw_length]; exact h3, h4, fun i hi => ?_⟩
  rw [sw_length] at hi
  rw [Array.getElem?_setIfInBounds, sw_nth k ys i hk]
  by_cases e : k = i
  · rw [if_pos e, if_pos (by simp; omega), if_pos e.symm]
  · rw [if_neg e, if_neg (fun x => e x.symm), Array.getElem?_setIfInBounds]
    by_cases e2 : k + 1 = i
    · rw [if_pos e2, if_pos (by omega), if_pos e2.symm]
    · rw [if_neg e2, if_neg (fun x => e2 x.symm)]
      exact h5 i hi
theorem below_set2 {B : Nat} {w0 w : World} (h : Below B w0 w) {g i j : Nat} (hB : B ≤ g) (x y : Value) : Below B w0 ((w.setCell ⟨g, i, none⟩ x).setCell ⟨g, j, none⟩ y) := by
  refine ⟨h.os, h.tape, h.output, by simpa using h.size, fun k hk => ?_⟩
  rw [Below.heap_setCell _ ⟨g, j, none⟩ y k (by simp; omega), Below.heap_setCell _ ⟨g, i, none⟩ x k (by simp; omega)]
  exact h.block k hk
theorem below_n {B : Nat} {w0 w : World} (h : Below B w0 w) {n : Nat} : Below B w0 (w.drewN n) := ⟨h.os, h.tape, h.output, h.size, h.block⟩
theorem BlkI.kept {w w' : World} {g cap : Nat} {ys : List Int} (h : BlkI w g cap ys) (hb : w'.heap[g]? = w.heap[g]?) : BlkI w' g cap ys := by
  obtain ⟨cur, h1, h2⟩ := h
  exact ⟨cur, hb.trans h1, h2⟩

/-- 'append(list, xs ..)' of integers in a plain region. -/
theorem list_ints {P : Program} {ops : Array Oper} {rest : List Oper} {o : Oper} {a : Act} {Q : Exit → Act → World → Prop} (hgd : o.guard = none) (s x : Operand) (t : TypeId)
    (ho : o.op = .call { callee := .builtin .append, args := #[s, x], argTypes := #[t, t] }) (i : TypeInfo) (ht : P.underlying t = some (.slice 3)) (hi : P.info? 3 = some i) (hz : i.zero = some (.int .i64 0))
    (hsize : i.size = 1) (hby : i.bytes = 8) (B : Nat) (w0 W : World) (v : Value) (zs xs : List Int) (b off n cap : Nat) (hn : xs.length = n) (hs : a.eval s = v) (hown : OwnI W B v zs) (hg0 : Below B w0 W) (hB : B ≤ W.heap.size)
    (hx : a.eval x = .slice (some ⟨b, off, none⟩) n cap) (hc : ∀ i, i < xs.length → W.cell? ⟨b, off + i, none⟩ = some (.int .i64 (nth xs i))) (hlen : zs.length + xs.length ≤ 1000000)
    (h : ∀ v' w', OwnI w' B v' (zs ++ xs) → Below B w0 w' → W.heap.size ≤ w'.heap.size → (∀ k, k < W.heap.size → some k ≠ v.ownBlock → w'.heap[k]? = W.heap[k]?) → (v' = .slice none 0 0 ↔ v = .slice none 0 0 ∧ n = 0) → wpList P ops Q rest (a.put o.dst v') w') : wpList P ops Q (o :: rest) a W := by
  subst hn
  refine wpList_append_own _ hgd s x t ho B 3 i (.int .i64 0) 1 8 ht hi hz hsize hby rfl (by decide) v zs.length _ hs hown ⟨b, off, none⟩ xs.length cap (xs.map (Value.int .i64)) hx (by simp) ?_ ?_ (by unfold maxLen; omega) (by omega) hB ?_
  · intro j u hj
    have hj' : j < xs.length := by have := (List.getElem?_eq_some_iff.1 hj).1; simpa using this
    have h2 : (⟨b, off, none⟩ : Addr).add j = ⟨b, off + j, none⟩ := by unfold Addr.add; split <;> simp_all
    rw [h2, hc j hj', ← hj, List.getElem?_map, nth_at hj']; rfl
  · intro c hc
    obtain ⟨z, _, rfl⟩ := List.mem_map.1 hc
    rfl
  · intro v' w' h1 h2 h3
    refine h v' w' (by unfold OwnI; simpa using h1) ?_ h2.size (fun k hk hne => h2.block k hk hne) h3
    exact hg0.grown h2 hB (fun k hk => (hown.lt k hk).1)
theorem OwnI.made (w : World) (B : Nat) (hB : B ≤ w.heap.size) : OwnI (w.alloc (.cells #[] 3)) B (.slice (some ⟨w.heap.size, 0, none⟩) 0 0) [] :=
  World.ownsRow_made w #[] 0 hB (by decide) rfl
theorem bel_new (w : World) (o : Obj) : Below w.heap.size w (w.alloc o) := (Below.refl _ _).alloc (Nat.le_refl _) _
theorem OwnI.some {w : World} {B : Nat} {v : Value} {xs : List Int} (h : OwnI w B v xs) (hne : v ≠ .slice none 0 0) : ∃ g cap, v = .slice (some ⟨g, 0, none⟩) xs.length cap := by
  obtain ⟨_, h⟩ := h
  rcases h with ⟨h, _⟩ | ⟨g, cap, _, h, _⟩
  · exact absurd h hne
  · exact ⟨g, cap, h⟩

end Go.Proofs.YtiflfcpoajijaaaGreatDoor.So

/- A certificate is made: signatures in a slice of one's own, their texts apart; the program's MakeCertificate. -/
namespace Go.Proofs.YtiflfcpoajijaaaGreatDoor.Kc
open Go.RowKit Go.Proofs.YtiflfcpoajijaaaGreatDoor.Sl Go.Proofs.YtiflfcpoajijaaaGreatDoor.By Go.Proofs.YtiflfcpoajijaaaGreatDoor.Ap Go.Proofs.YtiflfcpoajijaaaGreatDoor.Tx Go.Proofs.YtiflfcpoajijaaaGreatDoor.Sh Go.Proofs.YtiflfcpoajijaaaGreatDoor.Sg
open Go.Proofs.YtiflfcpoajijaaaGreatDoor.Gh (sgC sgI sgA sgB sgP sg_go gC_tx len32 implSignGrant_any)
open Go.Proofs.YtiflfcpoajijaaaGreatDoor.Gr12 (Gg gV grB grB_parts PTab)
open Go.Proofs.YtiflfcpoajijaaaGreatDoor.Rg (RowG Stays)
open Go.Proofs.YtiflfcpoajijaaaGreatDoor.Is (RowI OwnI info3)
open Go.Proofs.YtiflfcpoajijaaaGreatDoor.So (list_ints OwnI.made)
open Go.Proofs.YtiflfcpoajijaaaGreatDoor.Hf (inR)
open Go.Proofs.YtiflfcpoajijaaaGreatDoor.Tm (fCode fOut f_cases)
theorem list_none {P : Program} {ops : Array Oper} {rest : List Oper} {o : Oper} {a : Act} {Q : Exit → Act → World → Prop} (hgd : o.guard = none) (s x : Operand) (t : TypeId)
    (ho : o.op = .call { callee := .builtin .append, args := #[s, x], argTypes := #[t, t] }) (i : TypeInfo) (ht : P.underlying t = some (.slice 3)) (hi : P.info? 3 = some i) (hz : i.zero = some (.int .i64 0))
    (hsize : i.size = 1) (hby : i.bytes = 8) (B : Nat) (w0 W : World) (v : Value) (zs : List Int) (ad : Addr) (cap : Nat) (hs : a.eval s = v) (hown : OwnI W B v zs) (hg0 : Below B w0 W) (hB : B ≤ W.heap.size)
    (hx : a.eval x = .slice (some ad) 0 cap) (hlen : zs.length ≤ 1000000)
    (h : ∀ v' w', OwnI w' B v' zs → Below B w0 w' → W.heap.size ≤ w'.heap.size → wpList P ops Q rest (a.put o.dst v') w') : wpList P ops Q (o :: rest) a W := by
  refine wpList_append_own _ hgd s x t ho B 3 i (.int .i64 0) 1 8 ht hi hz hsize hby rfl (by decide) v zs.length _ hs hown ad 0 cap [] hx rfl ?_ ?_ (by unfold maxLen; omega) (by omega) hB ?_
  · intro j u hj
    simp at hj
  · intro c hc
    simp at hc
  · intro v' w' h1 h2 _
    refine h v' w' (by unfold OwnI; simpa using h1) ?_ h2.size
    exact hg0.grown h2 hB (fun k hk => (hown.lt k hk).1)
set_option maxRecDepth 100000 in
set_option maxHeartbeats 3200000 in
theorem clone_any (v : Value) (xs : List Int) (w : World) (h : RowI w v xs) (hl : xs.length ≤ 4096) :
    Calls Tryz.prog 27 #[v] w fun e w' => ∃ v', e = .returned v' ∧ OwnI w' w.heap.size v' xs ∧ Below w.heap.size w w' := by
  obtain ⟨i0, hi0, hz0, hz1, hz2⟩ := info_parts info3
  have q22 : ∀ (w : World) (a : Option Addr) (n c n' c' : Nat), (binOp .eql 26 (.slice a n c) (.slice none n' c')).run Tryz.prog w = .ok (.bool a.isNone) w := fun w a n c n' c' => Lib.run_eql_slice_nil w _ _ a n c n' c' Tryz.underlying26
  obtain ⟨a, cap, rfl, h, _⟩ := h
  cases a with
  | none =>
    have h0 : xs = [] := by
      rcases h with h | ⟨b, off, e, _⟩
      · exact h
      · cases e
    subst h0
    have HO : Hid (OwnI w w.heap.size (.slice none 0 0) []) := World.ownsRow_nil _ _ _ _
    clear h
    go_enter Tryz.func27, Tryz.ntmps27
    go_wp2_with fail
    go_ret
    exact ⟨_, rfl, HO.out, Below.refl _ _⟩
  | some a =>
    have HO : Hid (OwnI (w.alloc (.cells #[] 3)) w.heap.size (.slice (some ⟨w.heap.size, 0, none⟩) 0 0) []) := OwnI.made w _ (Nat.le_refl _)
    rcases h with h | ⟨b, off, e, hc, hb, hcell⟩
    · subst h
      obtain ⟨b, off, spot⟩ := a
      go_enter Tryz.func27, Tryz.ntmps27
      go_wp2_with (at_builtin; go_must (refine list_none (by rfl) _ _ 26 (by rfl) i0 Tryz.underlying26 hi0 hz0 hz1 hz2 w.heap.size w _ _ [] _ cap (by rfl) HO.out (bel_new w _) (by simp) (by rfl) (by simp) ?_; intro v1 w1 o1 b1 _))
      go_ret
      exact ⟨_, rfl, o1, b1⟩
    · cases e
      have HC : Hid (∀ i, i < xs.length → w.cell? ⟨b, off + i, none⟩ = some (.int .i64 (nth xs i))) := hcell
      clear hcell
      go_enter Tryz.func27, Tryz.ntmps27
      go_wp2_with (at_builtin; go_must (refine list_ints (by rfl) _ _ 26 (by rfl) i0 Tryz.underlying26 hi0 hz0 hz1 hz2 w.heap.size w _ _ [] xs b off _ cap rfl (by rfl) HO.out (bel_new w _) (by simp) (by rfl) (fun i hi => ((bel_new w _).cell (p := ⟨b, off + i, none⟩) hb).trans (HC.out i hi)) (by simp; omega) ?_; intro v1 w1 o1 b1 _ _ _))
      go_ret
      exact ⟨_, rfl, by simpa using o1, b1⟩

/-- 'append(v, x)': one signature is put behind those of one's own. -/
theorem appK {P : Program} {i : TypeInfo} (W : World) (B : Nat) (t ty : TypeId) (ht : P.underlying t = some (.slice 37)) (hi : P.info? 37 = some i) (hz : i.zero = some (.agg #[.int .i64 0, .slice none 0 0, .slice none 0 0, .slice none 0 0])) (hsize : i.size = 4) (hby : i.bytes = 80)
    (v : Value) (g : Nat) (te : TypeId) (fz : Nat × Nat) (ms : List Sv) (p : Sv) (hown : OwnK W B v ms) (hg : W.heap[g]? = some (.cells #[.int .i64 p.i, .slice p.a1 p.n1 p.c1, .slice p.a2 p.n2 p.c2, .slice p.a3 p.n3 p.c3] te fz)) (hB : B ≤ W.heap.size) (hlen : ms.length ≤ 3000000) :
    ∃ v' w', (Builtin.append_ #[t, t] ty #[v, .slice (some ⟨g, 0, none⟩) 1 1]).run P W = .ok v' w' ∧ OwnK w' B v' (ms ++ [p]) ∧ W.grownBy w' v.ownBlock ∧ (v'.ownBlock = v.ownBlock ∨ v'.ownBlock = some W.heap.size) := by
  have hs : ∀ j u, ([p].flatMap clK)[j]? = some u → W.cell? ((⟨g, 0, none⟩ : Addr).add j) = some u := fun j u hj => by
    have hc : [p].flatMap clK = clK p := by simp
    rw [hc] at hj
    have hj4 : j < 4 := (List.getElem?_eq_some_iff.1 hj).1
    rw [show ((⟨g, 0, none⟩ : Addr).add j) = ⟨g, j, none⟩ by (simp [Addr.add]; try (intro h; exact h.symm)), Joins.cell_of_block hg, ← hj]
    match j, hj4 with
    | 0, _ => rfl
    | 1, _ => rfl
    | 2, _ => rfl
    | 3, _ => rfl
  obtain ⟨v', w', hr, h2, h3, _, h5⟩ := run_append_own_at (P := P) W B t ty 37 i _ 4 80 ht hi hz hsize hby rfl (by decide) v ms.length _ hown ⟨g, 0, none⟩ 1 1 ([p].flatMap clK) (lenK [p]) hs (memK [p]) (by unfold maxLen; omega) (by omega) hB
  exact ⟨v', w', hr, by unfold OwnK; rw [List.flatMap_append, List.length_append]; exact h2, h3, h5⟩
theorem list_key {P : Program} {ops : Array Oper} {rest : List Oper} {o : Oper} {a : Act} {Q : Exit → Act → World → Prop} (hgd : o.guard = none) (s x0 : Operand) (t : TypeId)
    (ho : o.op = .call { callee := .builtin .append, args := #[s, x0], argTypes := #[t, t] }) (i : TypeInfo) (ht : P.underlying t = some (.slice 37)) (hi : P.info? 37 = some i) (hz : i.zero = some (.agg #[.int .i64 0, .slice none 0 0, .slice none 0 0, .slice none 0 0])) (hsize : i.size = 4) (hby : i.bytes = 80)
    (B : Nat) (W : World) (v : Value) (g : Nat) (te : TypeId) (fz : Nat × Nat) (ms : List Sv) (p : Sv) (hs : a.eval s = v) (hx : a.eval x0 = .slice (some ⟨g, 0, none⟩) 1 1) (hown : OwnK W B v ms) (hg : W.heap[g]? = some (.cells #[.int .i64 p.i, .slice p.a1 p.n1 p.c1, .slice p.a2 p.n2 p.c2, .slice p.a3 p.n3 p.c3] te fz)) (hB : B ≤ W.heap.size) (hlen : ms.length ≤ 3000000)
    (h : ∀ v' w', OwnK w' B v' (ms ++ [p]) → (∀ k, k < W.heap.size → v.ownBlock ≠ some k → w'.heap[k]? = W.heap[k]?) → Below B W w' → wpList P ops Q rest (a.put o.dst v') w') : wpList P ops Q (o :: rest) a W := by
  refine wpList_plain hgd fun K hK => ?_
  obtain ⟨v', w', hr, h2, h3, h5⟩ := appK (P := P) W B t o.type ht hi hz hsize hby v g te fz ms p hown hg hB hlen
  exact wp_app ho hs hx hr (hK _ _ (h v' w' h2 (fun k hk hne => h3.block k hk (fun e => hne e.symm)) ((Below.refl _ _).grown h3 hB (fun k hk => (hown.lt k hk).1))))
theorem step_key {P : Program} {ops : Array Oper} {o : Oper} {a : Act} {K : Act → World → Prop} {Q : Exit → Act → World → Prop} {E : Prop} (hgd : o.guard = none) (s x0 : Operand) (t : TypeId)
    (ho : o.op = .call { callee := .builtin .append, args := #[s, x0], argTypes := #[t, t] }) (i : TypeInfo) (ht : P.underlying t = some (.slice 37)) (hi : P.info? 37 = some i) (hz : i.zero = some (.agg #[.int .i64 0, .slice none 0 0, .slice none 0 0, .slice none 0 0])) (hsize : i.size = 4) (hby : i.bytes = 80)
    (B : Nat) (W : World) (v : Value) (g : Nat) (te : TypeId) (fz : Nat × Nat) (ms : List Sv) (p : Sv) (hs : a.eval s = v) (hx : a.eval x0 = .slice (some ⟨g, 0, none⟩) 1 1) (hown : OwnK W B v ms) (hg : W.heap[g]? = some (.cells #[.int .i64 p.i, .slice p.a1 p.n1 p.c1, .slice p.a2 p.n2 p.c2, .slice p.a3 p.n3 p.c3] te fz)) (hB : B ≤ W.heap.size) (hlen : ms.length ≤ 3000000)
    (h : ∀ v' w', OwnK w' B v' (ms ++ [p]) → (∀ k, k < W.heap.size → v.ownBlock ≠ some k → w'.heap[k]? = W.heap[k]?) → Below B W w' → K (a.put o.dst v') w') : if Region.wanted o (yielded ops a.tmps) = true then Oper.wp P o a W K Q else E := by
  have hw : Region.wanted o (yielded ops a.tmps) = true := by simp [Region.wanted, hgd]
  rw [if_pos hw]
  obtain ⟨v', w', hr, h2, h3, h5⟩ := appK (P := P) W B t o.type ht hi hz hsize hby v g te fz ms p hown hg hB hlen
  exact wp_app ho hs hx hr (h v' w' h2 (fun k hk hne => h3.block k hk (fun e => hne e.symm)) ((Below.refl _ _).grown h3 hB (fun k hk => (hown.lt k hk).1)))
theorem ownS_kept {w w' : World} {B : Nat} {v : Value} {ms : List ByteArray} (h : OwnS w B v ms) (hk : ∀ g, v.ownBlock = some g → w'.heap[g]? = w.heap[g]?) : OwnS w' B v ms := by
  obtain ⟨hl, h⟩ := h
  refine ⟨hl, ?_⟩
  rcases h with h | ⟨g, cap, cur, rfl, h1, hg, h2⟩
  · exact .inl h
  · exact .inr ⟨g, cap, cur, rfl, h1, (hk g rfl).trans hg, h2⟩
/-- The blocks of a signature's texts; one signature's lie ahead of another's. -/
def Bk (p : Sv) (g : Nat) : Prop := (Value.slice p.a1 p.n1 p.c1).ownBlock = some g ∨ (Value.slice p.a2 p.n2 p.c2).ownBlock = some g ∨ (Value.slice p.a3 p.n3 p.c3).ownBlock = some g
def SigP (w : World) (B : Nat) (p : Sv) (k : Ks) : Prop := p.i = k.i ∧ SigV w B (.slice p.a1 p.n1 p.c1) (.slice p.a2 p.n2 p.c2) (.slice p.a3 p.n3 p.c3) k.a k.b k.c
theorem SigP.lt {w : World} {B : Nat} {p : Sv} {k : Ks} (h : SigP w B p k) {g : Nat} (hg : Bk p g) : B ≤ g ∧ g < w.heap.size := by
  rcases hg with hg | hg | hg
  · exact OwnS.lt' h.2.oa g hg
  · exact OwnS.lt' h.2.ob g hg
  · exact OwnS.lt' h.2.oc g hg
theorem SigP.below {w w' : World} {B : Nat} {p : Sv} {k : Ks} (h : SigP w B p k) (hb : Below w.heap.size w w') : SigP w' B p k := ⟨h.1, h.2.below hb⟩
theorem SigP.kept {w w' : World} {B : Nat} {p : Sv} {k : Ks} (h : SigP w B p k) (hk : ∀ g, Bk p g → w'.heap[g]? = w.heap[g]?) : SigP w' B p k :=
  ⟨h.1, ownS_kept h.2.oa (fun g hg => hk g (.inl hg)), ownS_kept h.2.ob (fun g hg => hk g (.inr (.inl hg))), ownS_kept h.2.oc (fun g hg => hk g (.inr (.inr hg))), h.2.ab, h.2.ac, h.2.bc⟩
theorem SigP.mono {w : World} {B B' : Nat} {p : Sv} {k : Ks} (h : SigP w B p k) (hb : B' ≤ B) : SigP w B' p k := ⟨h.1, h.2.mono hb⟩
structure HV (B : Nat) (w : World) (ps : List Sv) (ks : List Ks) : Prop where
  len : ps.length = ks.length
  at_ : ∀ (j : Nat) (p : Sv) (k : Ks), ps[j]? = some p → ks[j]? = some k → SigP w B p k
  ord : ∀ (i j : Nat) (p q : Sv), i < j → ps[i]? = some p → ps[j]? = some q → ∀ g h, Bk p g → Bk q h → g < h
theorem HV.nil (B : Nat) (w : World) : HV B w [] [] := ⟨rfl, fun j p k h => by simp at h, fun i j p q _ h => by simp at h⟩
theorem HV.below {B : Nat} {w w' : World} {ps : List Sv} {ks : List Ks} (h : HV B w ps ks) (hb : Below w.heap.size w w') : HV B w' ps ks := ⟨h.len, fun j p k hp hk => (h.at_ j p k hp hk).below hb, h.ord⟩
theorem HV.kept {B : Nat} {w w' : World} {ps : List Sv} {ks : List Ks} (h : HV B w ps ks) (hk : ∀ g, B ≤ g → g < w.heap.size → (∃ p ∈ ps, Bk p g) → w'.heap[g]? = w.heap[g]?) : HV B w' ps ks := ⟨h.len, fun j p k hp hkk => (h.at_ j p k hp hkk).kept (fun g hg => hk g ((h.at_ j p k hp hkk).lt hg).1 ((h.at_ j p k hp hkk).lt hg).2 ⟨p, List.mem_of_getElem? hp, hg⟩), h.ord⟩
theorem HV.mono {B B' : Nat} {w : World} {ps : List Sv} {ks : List Ks} (h : HV B w ps ks) (hb : B' ≤ B) : HV B' w ps ks := ⟨h.len, fun j p k hp hk => (h.at_ j p k hp hk).mono hb, h.ord⟩
theorem get_snoc {α : Type} {xs : List α} {x y : α} {j : Nat} (h : (xs ++ [x])[j]? = some y) : xs[j]? = some y ∨ (j = xs.length ∧ y = x) := by
  by_cases hj : j < xs.length
  · rw [List.getElem?_append_left hj] at h; exact .inl h
  · have hj1 : j < (xs ++ [x]).length := (List.getElem?_eq_some_iff.1 h).1
    have hj2 : j = xs.length := by simp at hj1; omega
    subst hj2
    rw [List.getElem?_append_right (Nat.le_refl _)] at h
    simp at h
    exact .inr ⟨rfl, h.symm⟩
/-- One more, made in new memory. -/
theorem HV.snoc {B : Nat} {w w' : World} {ps : List Sv} {ks : List Ks} {p : Sv} {k : Ks} (h : HV B w ps ks) (hb : Below w.heap.size w w') (hB : B ≤ w.heap.size) (hp : SigP w' w.heap.size p k) : HV B w' (ps ++ [p]) (ks ++ [k]) := by
  refine ⟨by simp [h.len], fun j p' k' hp' hk' => ?_, fun i j p' q' hij hi hj g gg hg hgg => ?_⟩
  · rcases get_snoc hp' with e1 | ⟨e1, rfl⟩ <;> rcases get_snoc hk' with e2 | ⟨e2, rfl⟩
    · exact (h.at_ j p' k' e1 e2).below hb
    · have := (List.getElem?_eq_some_iff.1 e1).1; have := h.len; omega
    · have := (List.getElem?_eq_some_iff.1 e2).1; have := h.len; omega
    · exact hp.mono hB
  · rcases get_snoc hj with e1 | ⟨e1, rfl⟩ <;> rcases get_snoc hi with e2 | ⟨e2, rfl⟩
    · exact h.ord i j p' q' hij e2 e1 g gg hg hgg
    · have := (List.getElem?_eq_some_iff.1 e1).1; omega
    · have hl : i < ks.length := by have := (List.getElem?_eq_some_iff.1 e2).1; have := h.len; omega
      have q1 := ((h.at_ i p' _ e2 (List.getElem?_eq_getElem hl)).lt hg).2
      have q2 := (hp.lt hgg).1
      omega
    · omega
theorem own_row {w : World} {B : Nat} {v : Value} {ts : List ByteArray} (h : OwnS w B v ts) : RowT w v ts := h.row
theorem own_from {w : World} {B : Nat} {v : Value} {ts : List ByteArray} (h : OwnS w B v ts) : From B v := fun k hk => (OwnS.lt' h k hk).1
theorem HV.holds {B : Nat} {w : World} {ps : List Sv} {ks : List Ks} (h : HV B w ps ks) : Holds B w ps ks := ⟨h.len, fun j p k hp hk => by
  obtain ⟨e, s⟩ := h.at_ j p k hp hk
  exact ⟨e, own_row s.oa, own_row s.ob, own_row s.oc, own_from s.oa, own_from s.ob, own_from s.oc⟩⟩
/-- A certificate's two lists in memory of one's own. -/
structure Ce (w : World) (B : Nat) (vn vs : Value) (ns : List Int) (ks : List Ks) : Prop where
  nd : OwnI w B vn ns
  sg : ∃ ps, OwnK w B vs ps ∧ HV B w ps ks
theorem ownI_lt {w : World} {B : Nat} {v : Value} {ns : List Int} (h : OwnI w B v ns) : ∀ g, v.ownBlock = some g → B ≤ g ∧ g < w.heap.size := World.ownsRow.lt h
theorem ownI_kept {w w' : World} {B : Nat} {v : Value} {ms : List Int} (h : OwnI w B v ms) (hk : ∀ g, v.ownBlock = some g → w'.heap[g]? = w.heap[g]?) : OwnI w' B v ms := by
  obtain ⟨hl, h⟩ := h
  refine ⟨hl, ?_⟩
  rcases h with h | ⟨g, cap, cur, rfl, h1, hg, h2⟩
  · exact .inl h
  · exact .inr ⟨g, cap, cur, rfl, h1, (hk g rfl).trans hg, h2⟩
theorem ownI_mono {w : World} {B B' : Nat} {v : Value} {ms : List Int} (h : OwnI w B v ms) (hb : B' ≤ B) : OwnI w B' v ms := by
  obtain ⟨hl, h⟩ := h
  refine ⟨hl, ?_⟩
  rcases h with h | ⟨g, cap, cur, rfl, h1, hg, h2⟩
  · exact .inl h
  · exact .inr ⟨g, cap, cur, rfl, Nat.le_trans hb h1, hg, h2⟩
theorem ownI_slice {w : World} {B : Nat} {v : Value} {ms : List Int} (h : OwnI w B v ms) : ∃ a cap, v = .slice a ms.length cap := by
  obtain ⟨_, h | ⟨g, cap, cur, he, _⟩⟩ := h
  · exact ⟨none, 0, by rw [h.1, h.2]⟩
  · exact ⟨_, cap, he⟩
theorem Ce.below {w w' : World} {B : Nat} {vn vs : Value} {ns : List Int} {ks : List Ks} (h : Ce w B vn vs ns ks) (hb : Below w.heap.size w w') : Ce w' B vn vs ns ks := by
  obtain ⟨ps, h1, h2⟩ := h.sg
  exact ⟨ownI_kept h.nd (fun g hg => hb.block g (ownI_lt h.nd g hg).2), ps, h1.below hb, h2.below hb⟩
theorem Ce.mono {w : World} {B B' : Nat} {vn vs : Value} {ns : List Int} {ks : List Ks} (h : Ce w B vn vs ns ks) (hb : B' ≤ B) : Ce w B' vn vs ns ks := by
  obtain ⟨ps, h1, h2⟩ := h.sg
  exact ⟨ownI_mono h.nd hb, ps, h1.mono hb, h2.mono hb⟩
/-- What is not in the blocks from B on may change. -/
theorem Ce.kept {w w' : World} {B : Nat} {vn vs : Value} {ns : List Int} {ks : List Ks} (h : Ce w B vn vs ns ks) (hk : ∀ g, B ≤ g → g < w.heap.size → w'.heap[g]? = w.heap[g]?) : Ce w' B vn vs ns ks := by
  obtain ⟨ps, h1, h2⟩ := h.sg
  exact ⟨ownI_kept h.nd (fun g hg => hk g (ownI_lt h.nd g hg).1 (ownI_lt h.nd g hg).2), ps, h1.kept (fun g hg => hk g (h1.lt g hg).1 (h1.lt g hg).2), h2.kept (fun g hg hg2 _ => hk g hg hg2)⟩
theorem Ce.rows {w : World} {B : Nat} {vn vs : Value} {ns : List Int} {ks : List Ks} (h : Ce w B vn vs ns ks) (hr : ∀ x ∈ ns, inR x 0 6 = true) : RowI w vn ns ∧ Row w vs ks := by
  obtain ⟨ps, h1, h2⟩ := h.sg
  exact ⟨h.nd.row (fun x hx => by have := hr x hx; unfold inR at this; simp at this; omega), h1.row h2.holds⟩
/-- What a right call signs. -/
def kOf (ix : Int) (g : Gg) (n : Int) : Ks := ⟨sgI n ix g, sgA n ix g, sgB n ix g, sgP n ix g⟩
theorem mf_zero {n : Int} {g : Gg} {ns : List Int} {ix : Int} (h : mfC n g ns ix = 0) : grB g = true ∧ inR ix 0 7 = true ∧ cfC n ns = 0 ∧ ns.length ≤ 3 ∧ 1 ≤ ns.length := by
  unfold mfC at h
  split at h
  · cases h
  · split at h
    · split at h
      · rename_i a b c
        refine ⟨b, c, h, ?_⟩
        obtain ⟨h1, h2, h3⟩ := cf_zero h
        rcases f_cases n with rfl | rfl | rfl | ⟨_, _, _, _, hd⟩
        · have : fOut 1 = 0 := by decide
          omega
        · have : fOut 4 = 1 := by decide
          omega
        · have : fOut 7 = 2 := by decide
          omega
        · rw [hd] at h1; cases h1
      · cases h
    · cases h
theorem mf_sign {n : Int} {g : Gg} {ns : List Int} {ix : Int} (h : mfC n g ns ix = 0) {x : Int} (hx : x ∈ ns) : sgC x ix g = 0 := by
  obtain ⟨h1, h2, h3, _⟩ := mf_zero h
  have h4 := cf_node h3 hx
  rw [(sg_go h1 h4).1, gC_tx h1, if_pos h2]
set_option maxRecDepth 100000 in
set_option maxHeartbeats 1600000 in
theorem implMakeC_bad (n : Int) (g : Gg) (v : Value) (ns : List Int) (ix : Int) (w : World) (zg : g.nm.size ≤ maxLen) (h : RowI w v ns) (hl : ns.length ≤ 1048576) (hm : ¬ mfC n g ns ix = 0) :
    Calls Tryz.prog 7 #[.int .i64 n, gV g, v, .int .i64 ix] w fun e w' => e = .returned (.tuple #[.agg #[.string ⟨#[]⟩, .int .i64 0, .int .i64 0, .int .i64 0, .slice none 0 0, .slice none 0 0], .int .i64 (mfC n g ns ix)]) ∧ Below w.heap.size w w' := by
  have HMF : Hid (∀ W, Below w.heap.size w W → Calls Tryz.prog 26 #[.int .i64 n, .agg #[.string g.nm, .int .i64 g.hd, .int .i64 g.tk, .int .i64 g.ex], v, .int .i64 ix] W fun e w' => e = .returned (.int .i64 (mfC n g ns ix)) ∧ Below W.heap.size W w') := fun W hW => makingFault_any n g v ns ix W zg (h.below hW) hl
  have HX : Hid (∀ W, Below ((w.alloc (.cells #[.string g.nm, .int .i64 g.hd, .int .i64 g.tk, .int .i64 g.ex] 24)).alloc (.cells #[.string ⟨#[]⟩, .int .i64 0, .int .i64 0, .int .i64 0, .slice none 0 0, .slice none 0 0] 31)).heap.size ((w.alloc (.cells #[.string g.nm, .int .i64 g.hd, .int .i64 g.tk, .int .i64 g.ex] 24)).alloc (.cells #[.string ⟨#[]⟩, .int .i64 0, .int .i64 0, .int .i64 0, .slice none 0 0, .slice none 0 0] 31)) W → (W.heap[w.heap.size]? = some (.cells #[.string g.nm, .int .i64 g.hd, .int .i64 g.tk, .int .i64 g.ex] 24 (0, 0)) ∧ W.heap[w.heap.size + 1]? = some (.cells #[.string ⟨#[]⟩, .int .i64 0, .int .i64 0, .int .i64 0, .slice none 0 0, .slice none 0 0] 31 (0, 0))) ∧ Below w.heap.size w W) := fun W hW => by
    have e2 : ((w.alloc (.cells #[.string g.nm, .int .i64 g.hd, .int .i64 g.tk, .int .i64 g.ex] 24)).alloc (.cells #[.string ⟨#[]⟩, .int .i64 0, .int .i64 0, .int .i64 0, .slice none 0 0, .slice none 0 0] 31)).heap.size = w.heap.size + 1 + 1 := by rw [Rg.size_new, Rg.size_new]
    have h0 : ((w.alloc (.cells #[.string g.nm, .int .i64 g.hd, .int .i64 g.tk, .int .i64 g.ex] 24)).alloc (.cells #[.string ⟨#[]⟩, .int .i64 0, .int .i64 0, .int .i64 0, .slice none 0 0, .slice none 0 0] 31)).heap[w.heap.size]? = some (.cells #[.string g.nm, .int .i64 g.hd, .int .i64 g.tk, .int .i64 g.ex] 24 (0, 0)) := (Below.heap_alloc _ _ _ (by simp)).trans (heap_alloc_new w _)
    have h1 : ((w.alloc (.cells #[.string g.nm, .int .i64 g.hd, .int .i64 g.tk, .int .i64 g.ex] 24)).alloc (.cells #[.string ⟨#[]⟩, .int .i64 0, .int .i64 0, .int .i64 0, .slice none 0 0, .slice none 0 0] 31)).heap[w.heap.size + 1]? = some (.cells #[.string ⟨#[]⟩, .int .i64 0, .int .i64 0, .int .i64 0, .slice none 0 0, .slice none 0 0] 31 (0, 0)) := by
      have := heap_alloc_new (w.alloc (.cells #[.string g.nm, .int .i64 g.hd, .int .i64 g.tk, .int .i64 g.ex] 24)) (.cells #[.string ⟨#[]⟩, .int .i64 0, .int .i64 0, .int .i64 0, .slice none 0 0, .slice none 0 0] 31)
      rw [Rg.size_new] at this
      exact this
    have b0 : Below w.heap.size w ((w.alloc (.cells #[.string g.nm, .int .i64 g.hd, .int .i64 g.tk, .int .i64 g.ex] 24)).alloc (.cells #[.string ⟨#[]⟩, .int .i64 0, .int .i64 0, .int .i64 0, .slice none 0 0, .slice none 0 0] 31)) := (Rg.bel_new w _).trans ((Rg.bel_new _ _).mono (by simp))
    exact ⟨⟨(hW.block _ (by omega)).trans h0, (hW.block _ (by omega)).trans h1⟩, b0.trans (hW.mono b0.size)⟩
  obtain ⟨a, cap, rfl, _⟩ := h
  generalize mfC n g ns ix = kk at HMF hm
  have hk : (kk != 0) = true := by simpa using hm
  clear hm zg
  unfold gV
  go_enter Tryz.func7, Tryz.ntmps7
  go_upto_region 1 with fail
  generalize ((w.alloc (.cells #[.string g.nm, .int .i64 g.hd, .int .i64 g.tk, .int .i64 g.ex] 24)).alloc (.cells #[.string ⟨#[]⟩, .int .i64 0, .int .i64 0, .int .i64 0, .slice none 0 0, .slice none 0 0] 31)) = wb at HX ⊢
  have X0 := HX.out wb (Below.refl _ _)
  have c0 := (Rg.blk_cell X0.1.1 0 (x := .string g.nm) rfl).1
  have c1 := (Rg.blk_cell X0.1.1 1 (x := .int .i64 g.hd) rfl).1
  have c2 := (Rg.blk_cell X0.1.1 2 (x := .int .i64 g.tk) rfl).1
  have c3 := (Rg.blk_cell X0.1.1 3 (x := .int .i64 g.ex) rfl).1
  have HK := HMF.out wb X0.2
  clear X0
  go_wp2_with fail
  refine HK.mono ?_
  rintro e w2 ⟨rfl, b2⟩
  have HBZ : Hid (w2.heap[w.heap.size + 1]? = some (.cells #[.string ⟨#[]⟩, .int .i64 0, .int .i64 0, .int .i64 0, .slice none 0 0, .slice none 0 0] 31 (0, 0)) ∧ Below w.heap.size w w2) := ⟨(HX.out w2 b2).1.2, (HX.out w2 b2).2⟩
  clear b2 HK HX HMF c0 c1 c2 c3
  obtain ⟨z0, zf0⟩ := Rg.blk_cell HBZ.out.1 0 (x := .string ⟨#[]⟩) rfl
  obtain ⟨z1, zf1⟩ := Rg.blk_cell HBZ.out.1 1 (x := .int .i64 0) rfl
  obtain ⟨z2, zf2⟩ := Rg.blk_cell HBZ.out.1 2 (x := .int .i64 0) rfl
  obtain ⟨z3, zf3⟩ := Rg.blk_cell HBZ.out.1 3 (x := .int .i64 0) rfl
  obtain ⟨z4, zf4⟩ := Rg.blk_cell HBZ.out.1 4 (x := .slice none 0 0) rfl
  obtain ⟨z5, zf5⟩ := Rg.blk_cell HBZ.out.1 5 (x := .slice none 0 0) rfl
  have AF : ((((((w2.setCell ⟨w.heap.size + 1, 0, none⟩ (.string ⟨#[]⟩)).setCell ⟨w.heap.size + 1, 1, none⟩ (.int .i64 0)).setCell ⟨w.heap.size + 1, 2, none⟩ (.int .i64 0)).setCell ⟨w.heap.size + 1, 3, none⟩ (.int .i64 0)).setCell ⟨w.heap.size + 1, 4, none⟩ (.slice none 0 0)).setCell ⟨w.heap.size + 1, 5, none⟩ (.slice none 0 0)).heap[w.heap.size + 1]? = some (.cells #[.string ⟨#[]⟩, .int .i64 0, .int .i64 0, .int .i64 0, .slice none 0 0, .slice none 0 0] 31 (0, 0)) := (Rg.blk_set (Rg.blk_set (Rg.blk_set (Rg.blk_set (Rg.blk_set (Rg.blk_set HBZ.out.1 _ _) _ _) _ _) _ _) _ _) _ _)
  have BF : Below w.heap.size w ((((((w2.setCell ⟨w.heap.size + 1, 0, none⟩ (.string ⟨#[]⟩)).setCell ⟨w.heap.size + 1, 1, none⟩ (.int .i64 0)).setCell ⟨w.heap.size + 1, 2, none⟩ (.int .i64 0)).setCell ⟨w.heap.size + 1, 3, none⟩ (.int .i64 0)).setCell ⟨w.heap.size + 1, 4, none⟩ (.slice none 0 0)).setCell ⟨w.heap.size + 1, 5, none⟩ (.slice none 0 0)) := (Below.setCell (Below.setCell (Below.setCell (Below.setCell (Below.setCell (Below.setCell HBZ.out.2 (p := ⟨w.heap.size + 1, 0, none⟩) (Nat.le_succ _) (.string ⟨#[]⟩)) (p := ⟨w.heap.size + 1, 1, none⟩) (Nat.le_succ _) (.int .i64 0)) (p := ⟨w.heap.size + 1, 2, none⟩) (Nat.le_succ _) (.int .i64 0)) (p := ⟨w.heap.size + 1, 3, none⟩) (Nat.le_succ _) (.int .i64 0)) (p := ⟨w.heap.size + 1, 4, none⟩) (Nat.le_succ _) (.slice none 0 0)) (p := ⟨w.heap.size + 1, 5, none⟩) (Nat.le_succ _) (.slice none 0 0))
  go_wp2_with fail
  generalize ((((((w2.setCell ⟨w.heap.size + 1, 0, none⟩ (.string ⟨#[]⟩)).setCell ⟨w.heap.size + 1, 1, none⟩ (.int .i64 0)).setCell ⟨w.heap.size + 1, 2, none⟩ (.int .i64 0)).setCell ⟨w.heap.size + 1, 3, none⟩ (.int .i64 0)).setCell ⟨w.heap.size + 1, 4, none⟩ (.slice none 0 0)).setCell ⟨w.heap.size + 1, 5, none⟩ (.slice none 0 0)) = wf at AF BF ⊢
  have d0 := (Rg.blk_cell AF 0 (x := .string ⟨#[]⟩) rfl).1
  have d1 := (Rg.blk_cell AF 1 (x := .int .i64 0) rfl).1
  have d2 := (Rg.blk_cell AF 2 (x := .int .i64 0) rfl).1
  have d3 := (Rg.blk_cell AF 3 (x := .int .i64 0) rfl).1
  have d4 := (Rg.blk_cell AF 4 (x := .slice none 0 0) rfl).1
  have d5 := (Rg.blk_cell AF 5 (x := .slice none 0 0) rfl).1
  exact bodyPost_ret (v := .tuple #[.agg #[.string ⟨#[]⟩, .int .i64 0, .int .i64 0, .int .i64 0, .slice none 0 0, .slice none 0 0], .int .i64 kk]) (by simp [results, Tryz.results7, go_sem, d0, d1, d2, d3, d4, d5]) rfl ⟨rfl, BF⟩
/-- While a certificate is made: its box, its lists. -/
structure Mk (w W : World) (b : Nat) (g : Gg) (vn vs : Value) (ns : List Int) (ks : List Ks) : Prop where
  bx : W.heap[b]? = some (.cells #[.string g.nm, .int .i64 g.hd, .int .i64 g.tk, .int .i64 g.ex, vn, vs] 31 (0, 0))
  nd : OwnI W (w.heap.size + 2) vn ns
  ne : vn.ownBlock ≠ some b
  sg : ∃ ps, OwnK W (w.heap.size + 2) vs ps ∧ HV (b + 1) W ps ks ∧ vs.ownBlock ≠ some b
  bl : w.heap.size + 2 ≤ b
theorem Mk.below {w W W' : World} {b : Nat} {g : Gg} {vn vs : Value} {ns : List Int} {ks : List Ks} (h : Mk w W b g vn vs ns ks) (hb : Below W.heap.size W W') : Mk w W' b g vn vs ns ks := by
  obtain ⟨ps, h1, h2, h3⟩ := h.sg
  exact ⟨(hb.block _ (Array.getElem?_eq_some_iff.1 h.bx).1).trans h.bx, ownI_kept h.nd (fun g hg => hb.block g (ownI_lt h.nd g hg).2), h.ne, ⟨ps, h1.below hb, h2.below hb, h3⟩, h.bl⟩
theorem Mk.lt {w W : World} {b : Nat} {g : Gg} {vn vs : Value} {ns : List Int} {ks : List Ks} (h : Mk w W b g vn vs ns ks) : b < W.heap.size := (Array.getElem?_eq_some_iff.1 h.bx).1
theorem kind_ne {W : World} {x y : Nat} {A B : Array Value} {t u : TypeId} {f1 f2 : Nat × Nat} (h : W.heap[x]? = some (.cells A t f1)) (g : W.heap[y]? = some (.cells B u f2)) (htu : t ≠ u) : x ≠ y := fun e => by
  subst e
  rw [h] at g
  exact htu (Obj.cells.injEq .. ▸ Option.some.inj g).2.1
theorem ownK_kind {W : World} {B : Nat} {v : Value} {ms : List Sv} (h : OwnK W B v ms) : ∀ g, v.ownBlock = some g → ∃ A f, W.heap[g]? = some (.cells A 37 f) := by
  intro g hg
  rcases h.2 with ⟨rfl, _⟩ | ⟨g', cap, cur, rfl, _, hb, _⟩
  · cases hg
  · have e : g' = g := by simpa [Value.ownBlock] using hg
    subst e
    exact ⟨_, _, hb⟩
theorem ownI_kind {W : World} {B : Nat} {v : Value} {ms : List Int} (h : OwnI W B v ms) : ∀ g, v.ownBlock = some g → ∃ A f, W.heap[g]? = some (.cells A 3 f) := by
  intro g hg
  rcases h.2 with ⟨rfl, _⟩ | ⟨g', cap, cur, rfl, _, hb, _⟩
  · cases hg
  · have e : g' = g := by simpa [Value.ownBlock] using hg
    subst e
    exact ⟨_, _, hb⟩
theorem ownS_kind {W : World} {B : Nat} {v : Value} {ts : List ByteArray} (h : OwnS W B v ts) : ∀ g, v.ownBlock = some g → ∃ A f, W.heap[g]? = some (.cells A 9 f) := by
  intro g hg
  rcases h.2 with ⟨rfl, _⟩ | ⟨g', cap, cur, rfl, _, hb, _⟩
  · cases hg
  · have e : g' = g := by simpa [Value.ownBlock] using hg
    subst e
    exact ⟨_, _, hb⟩
theorem HV.kind {B : Nat} {w : World} {ps : List Sv} {ks : List Ks} (h : HV B w ps ks) {p : Sv} (hp : p ∈ ps) {g : Nat} (hg : Bk p g) : ∃ A f, w.heap[g]? = some (.cells A 9 f) := by
  obtain ⟨j, hj, e⟩ := List.getElem_of_mem hp
  have hl : j < ks.length := by rw [← h.len]; exact hj
  have hs := h.at_ j p _ (by rw [← e]; exact List.getElem?_eq_getElem hj) (List.getElem?_eq_getElem hl)
  rcases hg with hg | hg | hg
  · exact ownS_kind hs.2.oa g hg
  · exact ownS_kind hs.2.ob g hg
  · exact ownS_kind hs.2.oc g hg
/-- A signature that was made since joins: the append's world, then the store into the box. -/
theorem Mk.add {w W W1 W2 : World} {b : Nat} {g : Gg} {vn vs vs' : Value} {ns : List Int} {ks : List Ks} {p : Sv} {k : Ks} {ps : List Sv} (h : Mk w W b g vn vs ns ks) (hK : OwnK W (w.heap.size + 2) vs ps) (hV : HV (b + 1) W ps ks) (hs : vs.ownBlock ≠ some b) (h1 : Below W.heap.size W W1) (hp : SigP W1 W.heap.size p k) (hf : ∀ x, x < W1.heap.size → vs.ownBlock ≠ some x → W2.heap[x]? = W1.heap[x]?) (ho : OwnK W2 (w.heap.size + 2) vs' (ps ++ [p])) (hs' : vs'.ownBlock ≠ some b) :
    Mk w (W2.setCell ⟨b, 5, none⟩ vs') b g vn vs' ns (ks ++ [k]) := by
  have hv1 := hV.snoc h1 (by have := h.lt; omega) hp
  have hn1 : OwnI W1 (w.heap.size + 2) vn ns := ownI_kept h.nd (fun x hx => h1.block x (ownI_lt h.nd x hx).2)
  have hK1 := hK.below h1
  have hbx1 := (h1.block _ h.lt).trans h.bx
  have hb1 : b < W1.heap.size := (Array.getElem?_eq_some_iff.1 hbx1).1
  have hbx2 := (hf b hb1 hs).trans hbx1
  have hn2 : OwnI W2 (w.heap.size + 2) vn ns := ownI_kept hn1 (fun x hx => hf x (ownI_lt hn1 x hx).2 (fun e => by
    obtain ⟨_, _, q1⟩ := ownI_kind hn1 x hx
    obtain ⟨_, _, q2⟩ := ownK_kind hK1 x e
    exact kind_ne q1 q2 (by decide) rfl))
  have hv2 : HV (b + 1) W2 (ps ++ [p]) (ks ++ [k]) := hv1.kept (fun x hx hx2 ⟨q, hq, hqb⟩ => hf x hx2 (fun e => by
    obtain ⟨_, _, q1⟩ := hv1.kind hq hqb
    obtain ⟨_, _, q2⟩ := ownK_kind hK1 x e
    exact kind_ne q1 q2 (by decide) rfl))
  refine ⟨Rg.blk_set hbx2 _ _, ownI_kept hn2 (fun x hx => Rg.blk_far (fun e => h.ne (by rw [← e]; exact hx)) _ _), h.ne, ⟨ps ++ [p], ho.kept (fun x hx => Rg.blk_far (fun e => hs' (by rw [← e]; exact hx)) _ _), hv2.kept (fun x hx _ _ => Rg.blk_far (by omega) _ _), hs'⟩, h.bl⟩
theorem mkA {w w2 w3 : World} {g : Gg} {vn : Value} {ns : List Int} (hs : w.heap.size + 2 ≤ w2.heap.size) (b : Below w2.heap.size w2 w3) (o : OwnI w3 w2.heap.size vn ns) :
    Hid (Mk w (w3.alloc (.cells #[.string g.nm, .int .i64 g.hd, .int .i64 g.tk, .int .i64 g.ex, vn, .slice none 0 0] 31)) w3.heap.size g vn (.slice none 0 0) ns [] ∧ Below w2.heap.size w2 (w3.alloc (.cells #[.string g.nm, .int .i64 g.hd, .int .i64 g.tk, .int .i64 g.ex, vn, .slice none 0 0] 31))) :=
  ⟨⟨heap_alloc_new w3 _, ownI_kept (ownI_mono o hs) (fun x hx => Below.heap_alloc _ _ _ (ownI_lt o x hx).2), fun e => by have := (ownI_lt o _ e).2; omega, ⟨[], OwnK.nil _ _, HV.nil _ _, fun e => by cases e⟩, by have := b.size; omega⟩, b.alloc b.size _⟩
theorem mkB {w w2 w3 : World} {g : Gg} {vn : Value} {ns : List Int} (hs : w.heap.size + 2 ≤ w2.heap.size) (b : Below w2.heap.size w2 w3) (o : OwnI w3 (w2.heap.size + 1) vn ns) (hz : w3.heap[w2.heap.size]? = some (.cells #[.string ⟨#[]⟩, .int .i64 0, .int .i64 0, .int .i64 0, .slice none 0 0, .slice none 0 0] 31 (0, 0))) :
    Hid (Mk w ((((((w3.setCell ⟨w2.heap.size, 0, none⟩ (.string g.nm)).setCell ⟨w2.heap.size, 1, none⟩ (.int .i64 g.hd)).setCell ⟨w2.heap.size, 2, none⟩ (.int .i64 g.tk)).setCell ⟨w2.heap.size, 3, none⟩ (.int .i64 g.ex)).setCell ⟨w2.heap.size, 4, none⟩ vn).setCell ⟨w2.heap.size, 5, none⟩ (.slice none 0 0)) w2.heap.size g vn (.slice none 0 0) ns [] ∧ Below w2.heap.size w2 ((((((w3.setCell ⟨w2.heap.size, 0, none⟩ (.string g.nm)).setCell ⟨w2.heap.size, 1, none⟩ (.int .i64 g.hd)).setCell ⟨w2.heap.size, 2, none⟩ (.int .i64 g.tk)).setCell ⟨w2.heap.size, 3, none⟩ (.int .i64 g.ex)).setCell ⟨w2.heap.size, 4, none⟩ vn).setCell ⟨w2.heap.size, 5, none⟩ (.slice none 0 0))) := by
  have hf : ∀ x, x ≠ w2.heap.size → ((((((w3.setCell ⟨w2.heap.size, 0, none⟩ (.string g.nm)).setCell ⟨w2.heap.size, 1, none⟩ (.int .i64 g.hd)).setCell ⟨w2.heap.size, 2, none⟩ (.int .i64 g.tk)).setCell ⟨w2.heap.size, 3, none⟩ (.int .i64 g.ex)).setCell ⟨w2.heap.size, 4, none⟩ vn).setCell ⟨w2.heap.size, 5, none⟩ (.slice none 0 0)).heap[x]? = w3.heap[x]? := fun x hx => by
    rw [Rg.blk_far hx, Rg.blk_far hx, Rg.blk_far hx, Rg.blk_far hx, Rg.blk_far hx, Rg.blk_far hx]
  refine ⟨⟨Rg.blk_set (Rg.blk_set (Rg.blk_set (Rg.blk_set (Rg.blk_set (Rg.blk_set hz _ _) _ _) _ _) _ _) _ _) _ _, ownI_kept (ownI_mono o (by omega)) (fun x hx => hf x (by have := (ownI_lt o x hx).1; omega)), fun e => by have := (ownI_lt o _ e).1; omega, ⟨[], OwnK.nil _ _, HV.nil _ _, fun e => by cases e⟩, hs⟩, ?_⟩
  exact (((((b.setCell (p := ⟨w2.heap.size, 0, none⟩) (Nat.le_refl _) _).setCell (p := ⟨w2.heap.size, 1, none⟩) (Nat.le_refl _) _).setCell (p := ⟨w2.heap.size, 2, none⟩) (Nat.le_refl _) _).setCell (p := ⟨w2.heap.size, 3, none⟩) (Nat.le_refl _) _).setCell (p := ⟨w2.heap.size, 4, none⟩) (Nat.le_refl _) _).setCell (p := ⟨w2.heap.size, 5, none⟩) (Nat.le_refl _) _
theorem take_more {ns : List Int} {j : Nat} {x : Int} (hx : ns[j]? = some x) (ix : Int) (g : Gg) : (ns.take (j + 1)).map (kOf ix g) = (ns.take j).map (kOf ix g) ++ [kOf ix g x] := by
  rw [List.take_add_one, hx, List.map_append]
  rfl
set_option maxRecDepth 100000 in
set_option maxHeartbeats 1600000 in
theorem implMakeC_ok (n : Int) (g : Gg) (v : Value) (ns : List Int) (ix : Int) (w : World) (zg : g.nm.size ≤ maxLen) (h : RowI w v ns) (hm : mfC n g ns ix = 0) (hP : PTab w) (hK : KTab w) (hp : 0 < w.heap.size) :
    Calls Tryz.prog 7 #[.int .i64 n, gV g, v, .int .i64 ix] w fun e w' => ∃ vn vs, e = .returned (.tuple #[.agg #[.string g.nm, .int .i64 g.hd, .int .i64 g.tk, .int .i64 g.ex, vn, vs], .int .i64 0]) ∧ Hid (Ce w' (w.heap.size + 2) vn vs ns (ns.map (kOf ix g))) ∧ Below w.heap.size w w' := by
  have HM : Hid (mfC n g ns ix = 0) := hm
  have HLN : Hid (ns.length ≤ 3) := (mf_zero hm).2.2.2.1
  have hl3 : ns.length ≤ 3 := (mf_zero hm).2.2.2.1
  have hl1 : 1 ≤ ns.length := (mf_zero hm).2.2.2.2
  have HMF : Hid (∀ W, Below w.heap.size w W → Calls Tryz.prog 26 #[.int .i64 n, .agg #[.string g.nm, .int .i64 g.hd, .int .i64 g.tk, .int .i64 g.ex], v, .int .i64 ix] W fun e w' => e = .returned (.int .i64 0) ∧ Below W.heap.size W w') := fun W hW => by
    have q := makingFault_any n g v ns ix W zg (h.below hW) (by omega)
    rw [hm] at q
    exact q
  have HCL : Hid (∀ W, Below w.heap.size w W → Calls Tryz.prog 27 #[v] W fun e w' => ∃ v', e = .returned v' ∧ OwnI w' W.heap.size v' ns ∧ Below W.heap.size W w') := fun W hW => clone_any v ns W (h.below hW) (by omega)
  have HSG : Hid (∀ W x, x ∈ ns → Below w.heap.size w W → Calls Tryz.prog 9 #[.int .i64 x, .int .i64 ix, .agg #[.string g.nm, .int .i64 g.hd, .int .i64 g.tk, .int .i64 g.ex]] W fun e w' => ∃ p1 q1 r1 p2 q2 r2 p3 q3 r3, e = .returned (.tuple #[.agg #[.int .i64 (kOf ix g x).i, .slice p1 q1 r1, .slice p2 q2 r2, .slice p3 q3 r3], .int .i64 0]) ∧ Hid (SigP w' W.heap.size ⟨(kOf ix g x).i, p1, q1, r1, p2, q2, r2, p3, q3, r3⟩ (kOf ix g x)) ∧ Below W.heap.size W w') := fun W x hx hW => by
    have q := implSignGrant_any x ix g W zg (hP.below hW) (hK.below hW hp) (Nat.lt_of_lt_of_le hp hW.size)
    rw [mf_sign hm hx] at q
    refine q.mono ?_
    rintro e w' ⟨va, vb, vc, rfl, hs, hb⟩
    obtain ⟨p1, q1, r1, rfl⟩ : ∃ a b c, va = .slice a b c := by obtain ⟨a, c, e, _⟩ := own_row hs.oa; exact ⟨a, _, c, e⟩
    obtain ⟨p2, q2, r2, rfl⟩ : ∃ a b c, vb = .slice a b c := by obtain ⟨a, c, e, _⟩ := own_row hs.ob; exact ⟨a, _, c, e⟩
    obtain ⟨p3, q3, r3, rfl⟩ : ∃ a b c, vc = .slice a b c := by obtain ⟨a, c, e, _⟩ := own_row hs.oc; exact ⟨a, _, c, e⟩
    exact ⟨p1, q1, r1, p2, q2, r2, p3, q3, r3, rfl, ⟨rfl, hs⟩, hb⟩
  have HX : Hid (∀ W, Below ((w.alloc (.cells #[.string g.nm, .int .i64 g.hd, .int .i64 g.tk, .int .i64 g.ex] 24)).alloc (.cells #[.string ⟨#[]⟩, .int .i64 0, .int .i64 0, .int .i64 0, .slice none 0 0, .slice none 0 0] 31)).heap.size ((w.alloc (.cells #[.string g.nm, .int .i64 g.hd, .int .i64 g.tk, .int .i64 g.ex] 24)).alloc (.cells #[.string ⟨#[]⟩, .int .i64 0, .int .i64 0, .int .i64 0, .slice none 0 0, .slice none 0 0] 31)) W → (W.heap[w.heap.size]? = some (.cells #[.string g.nm, .int .i64 g.hd, .int .i64 g.tk, .int .i64 g.ex] 24 (0, 0)) ∧ W.heap[w.heap.size + 1]? = some (.cells #[.string ⟨#[]⟩, .int .i64 0, .int .i64 0, .int .i64 0, .slice none 0 0, .slice none 0 0] 31 (0, 0))) ∧ Below w.heap.size w W) := fun W hW => by
    have e2 : ((w.alloc (.cells #[.string g.nm, .int .i64 g.hd, .int .i64 g.tk, .int .i64 g.ex] 24)).alloc (.cells #[.string ⟨#[]⟩, .int .i64 0, .int .i64 0, .int .i64 0, .slice none 0 0, .slice none 0 0] 31)).heap.size = w.heap.size + 1 + 1 := by rw [Rg.size_new, Rg.size_new]
    have h0 : ((w.alloc (.cells #[.string g.nm, .int .i64 g.hd, .int .i64 g.tk, .int .i64 g.ex] 24)).alloc (.cells #[.string ⟨#[]⟩, .int .i64 0, .int .i64 0, .int .i64 0, .slice none 0 0, .slice none 0 0] 31)).heap[w.heap.size]? = some (.cells #[.string g.nm, .int .i64 g.hd, .int .i64 g.tk, .int .i64 g.ex] 24 (0, 0)) := (Below.heap_alloc _ _ _ (by simp)).trans (heap_alloc_new w _)
    have h1 : ((w.alloc (.cells #[.string g.nm, .int .i64 g.hd, .int .i64 g.tk, .int .i64 g.ex] 24)).alloc (.cells #[.string ⟨#[]⟩, .int .i64 0, .int .i64 0, .int .i64 0, .slice none 0 0, .slice none 0 0] 31)).heap[w.heap.size + 1]? = some (.cells #[.string ⟨#[]⟩, .int .i64 0, .int .i64 0, .int .i64 0, .slice none 0 0, .slice none 0 0] 31 (0, 0)) := by
      have := heap_alloc_new (w.alloc (.cells #[.string g.nm, .int .i64 g.hd, .int .i64 g.tk, .int .i64 g.ex] 24)) (.cells #[.string ⟨#[]⟩, .int .i64 0, .int .i64 0, .int .i64 0, .slice none 0 0, .slice none 0 0] 31)
      rw [Rg.size_new] at this
      exact this
    have b0 : Below w.heap.size w ((w.alloc (.cells #[.string g.nm, .int .i64 g.hd, .int .i64 g.tk, .int .i64 g.ex] 24)).alloc (.cells #[.string ⟨#[]⟩, .int .i64 0, .int .i64 0, .int .i64 0, .slice none 0 0, .slice none 0 0] 31)) := (Rg.bel_new w _).trans ((Rg.bel_new _ _).mono (by simp))
    exact ⟨⟨(hW.block _ (by omega)).trans h0, (hW.block _ (by omega)).trans h1⟩, b0.trans (hW.mono b0.size)⟩
  obtain ⟨i0, hi0, hz0, hz1, hz2⟩ := info_parts infoK
  have h9 := h
  obtain ⟨a, cap, rfl, hh, _⟩ := h
  obtain ⟨bF, oF, rfl, HFR⟩ : ∃ bF oF, a = some ⟨bF, oF, none⟩ ∧ Hid (∀ W, Below w.heap.size w W → ∀ (i : Nat) x, ns[i]? = some x → W.cell? ⟨bF, oF + i, none⟩ = some (.int .i64 x)) := by
    rcases hh with hh | ⟨b, off, e, _, hb, hc⟩
    · rw [hh] at hl1; simp at hl1
    · refine ⟨b, off, e, fun W hW i x hx => ?_⟩
      have hi := (List.getElem?_eq_some_iff.1 hx).1
      rw [hW.cell (p := ⟨b, off + i, none⟩) hb, hc i hi]
      have : nth ns i = x := by simp [nth, hx]
      rw [this]
  clear hm zg hP hK hp h9 hh hl1
  unfold gV
  go_enter Tryz.func7, Tryz.ntmps7
  go_upto_region 1 with fail
  generalize ((w.alloc (.cells #[.string g.nm, .int .i64 g.hd, .int .i64 g.tk, .int .i64 g.ex] 24)).alloc (.cells #[.string ⟨#[]⟩, .int .i64 0, .int .i64 0, .int .i64 0, .slice none 0 0, .slice none 0 0] 31)) = wb at HX ⊢
  have X0 := HX.out wb (Below.refl _ _)
  have c0 := (Rg.blk_cell X0.1.1 0 (x := .string g.nm) rfl).1
  have c1 := (Rg.blk_cell X0.1.1 1 (x := .int .i64 g.hd) rfl).1
  have c2 := (Rg.blk_cell X0.1.1 2 (x := .int .i64 g.tk) rfl).1
  have c3 := (Rg.blk_cell X0.1.1 3 (x := .int .i64 g.ex) rfl).1
  have HK := HMF.out wb X0.2
  clear X0
  go_wp2_with fail
  refine HK.mono ?_
  rintro e w2 ⟨rfl, b2⟩
  have B2 : Hid (Below wb.heap.size wb w2) := b2
  clear b2 HK HMF c0 c1 c2 c3
  go_upto_region 4 with fail
  have X2 := HX.out w2 B2.out
  have HG2 : Hid (∀ W, Below w2.heap.size w2 W → (W.cell? ⟨w.heap.size, 0, none⟩ = some (.string g.nm) ∧ W.cell? ⟨w.heap.size, 1, none⟩ = some (.int .i64 g.hd) ∧ W.cell? ⟨w.heap.size, 2, none⟩ = some (.int .i64 g.tk) ∧ W.cell? ⟨w.heap.size, 3, none⟩ = some (.int .i64 g.ex))) := fun W hW => by
    have q := (HX.out W (B2.out.trans (hW.mono B2.out.size))).1.1
    exact ⟨(Rg.blk_cell q 0 rfl).1, (Rg.blk_cell q 1 rfl).1, (Rg.blk_cell q 2 rfl).1, (Rg.blk_cell q 3 rfl).1⟩
  have HS2 : Hid (w.heap.size + 2 ≤ w2.heap.size) := (Array.getElem?_eq_some_iff.1 X2.1.2).1
  have HB2 : Hid (Below w.heap.size w w2) := X2.2
  have c0 := (Rg.blk_cell X2.1.1 0 (x := .string g.nm) rfl).1
  have c1 := (Rg.blk_cell X2.1.1 1 (x := .int .i64 g.hd) rfl).1
  have c2 := (Rg.blk_cell X2.1.1 2 (x := .int .i64 g.tk) rfl).1
  have c3 := (Rg.blk_cell X2.1.1 3 (x := .int .i64 g.ex) rfl).1
  have HGB : Hid (w2.heap[w.heap.size]? = some (.cells #[.string g.nm, .int .i64 g.hd, .int .i64 g.tk, .int .i64 g.ex] 24 (0, 0))) := X2.1.1
  have HGL : Hid (w.heap.size < w2.heap.size) := by show _ < _; have := HS2.out; omega
  clear X2
  go_cut [11] (fun p11 wx => ∃ (b : Nat) (na : Option Addr) (nk : Nat), p11 = .pointer (some ⟨b, 0, none⟩) ∧ Hid (Mk w wx b g (.slice na ns.length nk) (.slice none 0 0) ns [] ∧ Below w2.heap.size w2 wx))
  case first =>
    have ca0 := fun o => (Rg.blk_cell ((Below.heap_alloc w2 o _ HGL.out).trans HGB.out) 0 (x := .string g.nm) rfl).1
    have ca1 := fun o => (Rg.blk_cell ((Below.heap_alloc w2 o _ HGL.out).trans HGB.out) 1 (x := .int .i64 g.hd) rfl).1
    have ca2 := fun o => (Rg.blk_cell ((Below.heap_alloc w2 o _ HGL.out).trans HGB.out) 2 (x := .int .i64 g.tk) rfl).1
    have ca3 := fun o => (Rg.blk_cell ((Below.heap_alloc w2 o _ HGL.out).trans HGB.out) 3 (x := .int .i64 g.ex) rfl).1
    go_region_law (first
      | (go_simp; go_at_call 27; first
          | ((with_reducible refine (HCL.out _ HB2.out.drew).mono ?_); rintro e w3 ⟨v3, rfl, o3, b3⟩; obtain ⟨na, nk, rfl⟩ := ownI_slice o3; have s3 : Below w2.heap.size w2 w3 := (Below.refl _ _).drew.trans b3; have q3 := (s3.block _ HGL.out).trans HGB.out; have y0 := (Rg.blk_cell q3 0 (x := .string g.nm) rfl).1; have y1 := (Rg.blk_cell q3 1 (x := .int .i64 g.hd) rfl).1; have y2 := (Rg.blk_cell q3 2 (x := .int .i64 g.tk) rfl).1; have y3 := (Rg.blk_cell q3 3 (x := .int .i64 g.ex) rfl).1; have ya0 := fun o => (Rg.blk_cell ((Below.heap_alloc w3 o _ (Nat.lt_of_lt_of_le HGL.out s3.size)).trans q3) 0 (x := .string g.nm) rfl).1; have ya1 := fun o => (Rg.blk_cell ((Below.heap_alloc w3 o _ (Nat.lt_of_lt_of_le HGL.out s3.size)).trans q3) 1 (x := .int .i64 g.hd) rfl).1; have ya2 := fun o => (Rg.blk_cell ((Below.heap_alloc w3 o _ (Nat.lt_of_lt_of_le HGL.out s3.size)).trans q3) 2 (x := .int .i64 g.tk) rfl).1; have ya3 := fun o => (Rg.blk_cell ((Below.heap_alloc w3 o _ (Nat.lt_of_lt_of_le HGL.out s3.size)).trans q3) 3 (x := .int .i64 g.ex) rfl).1; have FA : Hid (∀ (_ : Unit), Below w2.heap.size w2 w3 ∧ OwnI w3 w2.heap.size (.slice na ns.length nk) ns) := fun _ => ⟨s3, o3⟩; clear b3 o3 s3 q3; try go_simp)
          | ((with_reducible refine (HCL.out _ (HB2.out.alloc HB2.out.size _).drew).mono ?_); rintro e w3 ⟨v3, rfl, o3, b3⟩; obtain ⟨na, nk, rfl⟩ := ownI_slice o3; have s3 : Below w2.heap.size w2 w3 := ((Below.refl _ _).alloc (Nat.le_refl _) _).drew.trans (b3.mono (by simp)); have q3 := (s3.block _ HGL.out).trans HGB.out; have y0 := (Rg.blk_cell q3 0 (x := .string g.nm) rfl).1; have y1 := (Rg.blk_cell q3 1 (x := .int .i64 g.hd) rfl).1; have y2 := (Rg.blk_cell q3 2 (x := .int .i64 g.tk) rfl).1; have y3 := (Rg.blk_cell q3 3 (x := .int .i64 g.ex) rfl).1; have zq : w3.heap[w2.heap.size]? = some (.cells #[.string ⟨#[]⟩, .int .i64 0, .int .i64 0, .int .i64 0, .slice none 0 0, .slice none 0 0] 31 (0, 0)) := (b3.block _ (by simp)).trans (heap_alloc_new _ _); obtain ⟨z0, zf0⟩ := Rg.blk_cell zq 0 (x := .string ⟨#[]⟩) rfl; obtain ⟨z1, zf1⟩ := Rg.blk_cell zq 1 (x := .int .i64 0) rfl; obtain ⟨z2, zf2⟩ := Rg.blk_cell zq 2 (x := .int .i64 0) rfl; obtain ⟨z3, zf3⟩ := Rg.blk_cell zq 3 (x := .int .i64 0) rfl; obtain ⟨z4, zf4⟩ := Rg.blk_cell zq 4 (x := .slice none 0 0) rfl; obtain ⟨z5, zf5⟩ := Rg.blk_cell zq 5 (x := .slice none 0 0) rfl; have FB : Hid (∀ (_ : Unit), Below w2.heap.size w2 w3 ∧ OwnI w3 (w2.heap.size + 1) (.slice na ns.length nk) ns ∧ w3.heap[w2.heap.size]? = some (.cells #[.string ⟨#[]⟩, .int .i64 0, .int .i64 0, .int .i64 0, .slice none 0 0, .slice none 0 0] 31 (0, 0))) := fun _ => ⟨s3, by simpa using o3, zq⟩; clear b3 o3 s3 q3 zq; try go_simp)))
    all_goals (try go_wp2_with fail)
    all_goals go_meet
    all_goals first
      | with_reducible exact ⟨_, na, nk, rfl, mkA HS2.out (FA.out ()).1 (FA.out ()).2⟩
      | with_reducible exact ⟨_, na, nk, rfl, mkB HS2.out (FB.out ()).1 (FB.out ()).2.1 (FB.out ()).2.2⟩
  case rest =>
    obtain ⟨b, na, nk, rfl, HB5⟩ := hcut
    have HC : Hid (∀ W, Below (w.heap.size + 2) w2 W → W.heap[w.heap.size]? = some (.cells #[.string g.nm, .int .i64 g.hd, .int .i64 g.tk, .int .i64 g.ex] 24 (0, 0)) ∧ W.heap[w.heap.size + 1]? = some (.cells #[.string ⟨#[]⟩, .int .i64 0, .int .i64 0, .int .i64 0, .slice none 0 0, .slice none 0 0] 31 (0, 0)) ∧ Below w.heap.size w W) := fun W hW => by
      have q := HX.out w2 B2.out
      exact ⟨(hW.block _ (by omega)).trans q.1.1, (hW.block _ (by omega)).trans q.1.2, q.2.trans (hW.mono (by omega))⟩
    clear c0 c1 c2 c3 HCL HX B2 HG2 HGB HGL
    go_wp2_with fail
    go_loopw [31] (fun i wr => ∃ j : Nat, j ≤ ns.length ∧ i = .int .i64 j ∧ Hid (∃ vs, Mk w wr b g (.slice na ns.length nk) vs ns ((ns.take j).map (kOf ix g)) ∧ Below (w.heap.size + 2) w2 wr)) (fun i _ => ns.length - (intOf i).toNat)
    case atStart => exact ⟨0, by omega, rfl, ⟨_, HB5.out.1, HB5.out.2.mono HS2.out⟩⟩
    case round =>
      clear HB5
      obtain ⟨j, hj, rfl, HJ⟩ := hrel
      obtain ⟨vs, hmk, hbl⟩ := HJ.out
      obtain ⟨ps, hok, hhv, hsb⟩ := hmk.sg
      have hpl : ps.length = j := by rw [hhv.len, List.length_map, List.length_take]; omega
      obtain ⟨sa, sc, rfl⟩ : ∃ a c, vs = .slice a j c := by
        have q := hok.slice
        rw [hpl] at q
        exact q
      have HMK : Hid (Mk w wr b g (.slice na ns.length nk) (.slice sa j sc) ns ((ns.take j).map (kOf ix g)) ∧ Below (w.heap.size + 2) w2 wr) := ⟨hmk, hbl⟩
      have HPS : Hid (OwnK wr (w.heap.size + 2) (.slice sa j sc) ps ∧ HV (b + 1) wr ps ((ns.take j).map (kOf ix g)) ∧ (Value.slice sa j sc).ownBlock ≠ some b ∧ ps.length = j) := ⟨hok, hhv, hsb, hpl⟩
      clear HJ hmk hbl hok hhv hsb hpl
      have hwr := HC.out wr HMK.out.2
      by_cases hlt : j < ns.length
      · obtain ⟨x, hx⟩ := Rg.get_at hlt
        have hltI : (j : Int) < (ns.length : Int) := by omega
        have hxc := HFR.out wr hwr.2.2 j x hx
        have HXX : Hid (ns[j]? = some x) := hx
        have c0 := (Rg.blk_cell hwr.1 0 (x := .string g.nm) rfl).1
        have c1 := (Rg.blk_cell hwr.1 1 (x := .int .i64 g.hd) rfl).1
        have c2 := (Rg.blk_cell hwr.1 2 (x := .int .i64 g.tk) rfl).1
        have c3 := (Rg.blk_cell hwr.1 3 (x := .int .i64 g.ex) rfl).1
        have HK := HSG.out wr x (List.mem_of_getElem? hx) hwr.2.2
        clear hx hwr
        generalize (kOf ix g x).i = ki at HK
        go_wp2_with fail
        refine HK.mono ?_
        rintro e w4 ⟨p1, q1, r1, p2, q2, r2, p3, q3, r3, rfl, HSP, b4⟩
        have HS5 : Hid (∀ W, Below (w4.alloc (.cells #[.int .i64 ki, .slice p1 q1 r1, .slice p2 q2 r2, .slice p3 q3 r3] 37)).heap.size (w4.alloc (.cells #[.int .i64 ki, .slice p1 q1 r1, .slice p2 q2 r2, .slice p3 q3 r3] 37)) W → W.heap[w4.heap.size]? = some (.cells #[.int .i64 ki, .slice p1 q1 r1, .slice p2 q2 r2, .slice p3 q3 r3] 37 (0, 0)) ∧ Below wr.heap.size wr W ∧ SigP W wr.heap.size ⟨ki, p1, q1, r1, p2, q2, r2, p3, q3, r3⟩ (kOf ix g x)) := fun W hW => by
          have hn := (Rg.bel_new w4 (.cells #[.int .i64 ki, .slice p1 q1 r1, .slice p2 q2 r2, .slice p3 q3 r3] 37)).trans (hW.mono (by simp))
          exact ⟨(hW.block w4.heap.size (by simp)).trans (heap_alloc_new w4 _), b4.trans (hn.mono b4.size), HSP.out.below hn⟩
        clear b4 HK HSP hxc c0 c1 c2 c3
        go_upto_region 9 with fail
        generalize w4.alloc (.cells #[.int .i64 ki, .slice p1 q1 r1, .slice p2 q2 r2, .slice p3 q3 r3] 37) = w5 at HS5 ⊢
        generalize w4.heap.size = bS at HS5 ⊢
        have hq5 := HS5.out w5 (Below.refl _ _)
        have s0 := (Rg.blk_cell hq5.1 0 (x := .int .i64 ki) rfl).1
        have s1 := (Rg.blk_cell hq5.1 1 (x := .slice p1 q1 r1) rfl).1
        have s2 := (Rg.blk_cell hq5.1 2 (x := .slice p2 q2 r2) rfl).1
        have s3 := (Rg.blk_cell hq5.1 3 (x := .slice p3 q3 r3) rfl).1
        have hb5 := (hq5.2.1.block _ HMK.out.1.lt).trans HMK.out.1.bx
        have d5 := (Rg.blk_cell hb5 5 (x := .slice sa j sc) rfl).1
        have HB5 : Hid (w5.heap[b]? = some (.cells #[.string g.nm, .int .i64 g.hd, .int .i64 g.tk, .int .i64 g.ex, .slice na ns.length nk, .slice sa j sc] 31 (0, 0)) ∧ Below wr.heap.size wr w5) := ⟨hb5, hq5.2.1⟩
        have HQ6 : Hid (∀ W, Below w5.heap.size w5 W → SigP W wr.heap.size ⟨ki, p1, q1, r1, p2, q2, r2, p3, q3, r3⟩ (kOf ix g x) ∧ Below wr.heap.size wr W) := fun W hW => ⟨hq5.2.2.below hW, hq5.2.1.trans (hW.mono hq5.2.1.size)⟩
        have HO5 : Hid (OwnK (w5.alloc (.cells #[.int .i64 ki, .slice p1 q1 r1, .slice p2 q2 r2, .slice p3 q3 r3] 37)) (w.heap.size + 2) (.slice sa j sc) ps ∧ w.heap.size + 2 ≤ (w5.alloc (.cells #[.int .i64 ki, .slice p1 q1 r1, .slice p2 q2 r2, .slice p3 q3 r3] 37)).heap.size ∧ ps.length ≤ 3000000) := ⟨(HPS.out.1.below hq5.2.1).below (Rg.bel_new _ _), by have := HMK.out.1.bl; have := HMK.out.1.lt; have := hq5.2.1.size; simp; omega, by have := HPS.out.2.2.2; omega⟩
        clear hq5 hb5
        go_wp2_with (at_builtin; go_must (refine list_key (by rfl) _ _ 29 (by rfl) i0 Tryz.underlying29 hi0 hz0 hz1 hz2 (w.heap.size + 2) _ _ _ 37 (0, 0) ps ⟨ki, p1, q1, r1, p2, q2, r2, p3, q3, r3⟩ (by rfl) (by rfl) HO5.out.1 (heap_alloc_new _ _) HO5.out.2.1 HO5.out.2.2 ?_; intro v9 w9 o9 f9 b9; have hb9 : w9.heap[b]? = some (.cells #[.string g.nm, .int .i64 g.hd, .int .i64 g.tk, .int .i64 g.ex, .slice na ns.length nk, .slice sa j sc] 31 (0, 0)) := (f9 b (by have := (Array.getElem?_eq_some_iff.1 HB5.out.1).1; simp; omega) HPS.out.2.2.1).trans ((Below.heap_alloc _ _ _ (Array.getElem?_eq_some_iff.1 HB5.out.1).1).trans HB5.out.1); obtain ⟨z5, zf5⟩ := Rg.blk_cell hb9 5 (x := .slice sa j sc) rfl; obtain ⟨a9, k9, rfl⟩ : ∃ a c, v9 = .slice a (j + 1) c := (by have q := o9.slice; rw [List.length_append, HPS.out.2.2.2] at q; exact q)))
        have hne9 : (Value.slice a9 (j + 1) k9).ownBlock ≠ some b := fun e => by
          obtain ⟨_, _, e1⟩ := ownK_kind o9 b e
          exact kind_ne e1 hb9 (by decide) rfl
        have hfin := HMK.out.1.add (ps := ps) (k := kOf ix g x) HPS.out.1 HPS.out.2.1 HPS.out.2.2.1 (HQ6.out _ (Rg.bel_new _ _)).2 (HQ6.out _ (Rg.bel_new _ _)).1 f9 o9 hne9
        rw [← take_more HXX.out] at hfin
        refine ⟨⟨j + 1, by omega, by go_num, ⟨_, hfin, ?_⟩⟩, by simp [intOf]; omega⟩
        have hbB : w.heap.size + 2 ≤ b := HMK.out.1.bl
        have hwB : w.heap.size + 2 ≤ wr.heap.size := by have := HMK.out.1.lt; omega
        have hg0 : Below (w.heap.size + 2) w2 (w5.alloc (.cells #[.int .i64 ki, .slice p1 q1 r1, .slice p2 q2 r2, .slice p3 q3 r3] 37)) := HMK.out.2.trans ((HQ6.out _ (Rg.bel_new w5 _)).2.mono hwB)
        exact (hg0.trans b9).setCell (p := ⟨b, 5, none⟩) hbB _
      · obtain rfl : j = ns.length := by omega
        have hbx := HMK.out.1.bx
        have d0 := (Rg.blk_cell hbx 0 (x := .string g.nm) rfl).1
        have d1 := (Rg.blk_cell hbx 1 (x := .int .i64 g.hd) rfl).1
        have d2 := (Rg.blk_cell hbx 2 (x := .int .i64 g.tk) rfl).1
        have d3 := (Rg.blk_cell hbx 3 (x := .int .i64 g.ex) rfl).1
        have d4 := (Rg.blk_cell hbx 4 (x := .slice na ns.length nk) rfl).1
        have d5 := (Rg.blk_cell hbx 5 (x := .slice sa ns.length sc) rfl).1
        obtain ⟨z0, zf0⟩ := Rg.blk_cell hwr.2.1 0 (x := .string ⟨#[]⟩) rfl
        obtain ⟨z1, zf1⟩ := Rg.blk_cell hwr.2.1 1 (x := .int .i64 0) rfl
        obtain ⟨z2, zf2⟩ := Rg.blk_cell hwr.2.1 2 (x := .int .i64 0) rfl
        obtain ⟨z3, zf3⟩ := Rg.blk_cell hwr.2.1 3 (x := .int .i64 0) rfl
        obtain ⟨z4, zf4⟩ := Rg.blk_cell hwr.2.1 4 (x := .slice none 0 0) rfl
        obtain ⟨z5, zf5⟩ := Rg.blk_cell hwr.2.1 5 (x := .slice none 0 0) rfl
        have AF : ((((((wr.setCell ⟨w.heap.size + 1, 0, none⟩ (.string g.nm)).setCell ⟨w.heap.size + 1, 1, none⟩ (.int .i64 g.hd)).setCell ⟨w.heap.size + 1, 2, none⟩ (.int .i64 g.tk)).setCell ⟨w.heap.size + 1, 3, none⟩ (.int .i64 g.ex)).setCell ⟨w.heap.size + 1, 4, none⟩ (.slice na ns.length nk)).setCell ⟨w.heap.size + 1, 5, none⟩ (.slice sa ns.length sc)).heap[w.heap.size + 1]? = some (.cells #[.string g.nm, .int .i64 g.hd, .int .i64 g.tk, .int .i64 g.ex, .slice na ns.length nk, .slice sa ns.length sc] 31 (0, 0)) := (Rg.blk_set (Rg.blk_set (Rg.blk_set (Rg.blk_set (Rg.blk_set (Rg.blk_set hwr.2.1 _ _) _ _) _ _) _ _) _ _) _ _)
        have BF : Below w.heap.size w ((((((wr.setCell ⟨w.heap.size + 1, 0, none⟩ (.string g.nm)).setCell ⟨w.heap.size + 1, 1, none⟩ (.int .i64 g.hd)).setCell ⟨w.heap.size + 1, 2, none⟩ (.int .i64 g.tk)).setCell ⟨w.heap.size + 1, 3, none⟩ (.int .i64 g.ex)).setCell ⟨w.heap.size + 1, 4, none⟩ (.slice na ns.length nk)).setCell ⟨w.heap.size + 1, 5, none⟩ (.slice sa ns.length sc)) := (Below.setCell (Below.setCell (Below.setCell (Below.setCell (Below.setCell (Below.setCell hwr.2.2 (p := ⟨w.heap.size + 1, 0, none⟩) (Nat.le_succ _) (.string g.nm)) (p := ⟨w.heap.size + 1, 1, none⟩) (Nat.le_succ _) (.int .i64 g.hd)) (p := ⟨w.heap.size + 1, 2, none⟩) (Nat.le_succ _) (.int .i64 g.tk)) (p := ⟨w.heap.size + 1, 3, none⟩) (Nat.le_succ _) (.int .i64 g.ex)) (p := ⟨w.heap.size + 1, 4, none⟩) (Nat.le_succ _) (.slice na ns.length nk)) (p := ⟨w.heap.size + 1, 5, none⟩) (Nat.le_succ _) (.slice sa ns.length sc))
        have CE : Hid (Ce ((((((wr.setCell ⟨w.heap.size + 1, 0, none⟩ (.string g.nm)).setCell ⟨w.heap.size + 1, 1, none⟩ (.int .i64 g.hd)).setCell ⟨w.heap.size + 1, 2, none⟩ (.int .i64 g.tk)).setCell ⟨w.heap.size + 1, 3, none⟩ (.int .i64 g.ex)).setCell ⟨w.heap.size + 1, 4, none⟩ (.slice na ns.length nk)).setCell ⟨w.heap.size + 1, 5, none⟩ (.slice sa ns.length sc)) (w.heap.size + 2) (.slice na ns.length nk) (.slice sa ns.length sc) ns (ns.map (kOf ix g))) := by
          have hce : Ce wr (w.heap.size + 2) (.slice na ns.length nk) (.slice sa ns.length sc) ns (ns.map (kOf ix g)) := by
            have hv := HPS.out.2.1
            rw [List.take_length] at hv
            exact ⟨HMK.out.1.nd, ps, HPS.out.1, hv.mono (by have := HMK.out.1.bl; omega)⟩
          refine hce.kept (fun x hx _ => ?_)
          have hne : x ≠ w.heap.size + 1 := by omega
          rw [Rg.blk_far hne, Rg.blk_far hne, Rg.blk_far hne, Rg.blk_far hne, Rg.blk_far hne, Rg.blk_far hne]
        clear hwr hbx
        go_wp2_with fail
        generalize ((((((wr.setCell ⟨w.heap.size + 1, 0, none⟩ (.string g.nm)).setCell ⟨w.heap.size + 1, 1, none⟩ (.int .i64 g.hd)).setCell ⟨w.heap.size + 1, 2, none⟩ (.int .i64 g.tk)).setCell ⟨w.heap.size + 1, 3, none⟩ (.int .i64 g.ex)).setCell ⟨w.heap.size + 1, 4, none⟩ (.slice na ns.length nk)).setCell ⟨w.heap.size + 1, 5, none⟩ (.slice sa ns.length sc)) = wf at AF BF CE ⊢
        have e0 := (Rg.blk_cell AF 0 (x := .string g.nm) rfl).1
        have e1 := (Rg.blk_cell AF 1 (x := .int .i64 g.hd) rfl).1
        have e2 := (Rg.blk_cell AF 2 (x := .int .i64 g.tk) rfl).1
        have e3 := (Rg.blk_cell AF 3 (x := .int .i64 g.ex) rfl).1
        have e4 := (Rg.blk_cell AF 4 (x := .slice na ns.length nk) rfl).1
        have e5 := (Rg.blk_cell AF 5 (x := .slice sa ns.length sc) rfl).1
        exact bodyPost_ret (v := .tuple #[.agg #[.string g.nm, .int .i64 g.hd, .int .i64 g.tk, .int .i64 g.ex, .slice na ns.length nk, .slice sa ns.length sc], .int .i64 0]) (by simp [results, Tryz.results7, go_sem, e0, e1, e2, e3, e4, e5]) rfl ⟨_, _, rfl, CE, BF⟩
end Go.Proofs.YtiflfcpoajijaaaGreatDoor.Kc
