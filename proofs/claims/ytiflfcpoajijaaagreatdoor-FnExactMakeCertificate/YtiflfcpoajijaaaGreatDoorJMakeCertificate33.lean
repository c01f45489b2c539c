/- Texts put together: Cfk, Cfl, Cfn. -/
import Derived.Test.YtiflfcpoajijaaaGreatDoorJMakeCertificate26
import Derived.Test.YtiflfcpoajijaaaGreatDoorJMakeCertificate27
import Derived.Test.YtiflfcpoajijaaaGreatDoorJMakeCertificate14
import Derived.Deep.CutRange
import Derived.Deep.LoopGhost
import Derived.Test.YtiflfcpoajijaaaGreatDoorJMakeCertificate32
/- Marks on a certificate. -/
namespace Go.Proofs.YtiflfcpoajijaaaGreatDoor.Kc
open Go.RowKit Go.Proofs.YtiflfcpoajijaaaGreatDoor.Sl Go.Proofs.YtiflfcpoajijaaaGreatDoor.By Go.Proofs.YtiflfcpoajijaaaGreatDoor.Ap Go.Proofs.YtiflfcpoajijaaaGreatDoor.Tx Go.Proofs.YtiflfcpoajijaaaGreatDoor.Sg
open Go.Proofs.YtiflfcpoajijaaaGreatDoor.Is (RowI OwnI)
open Go.Proofs.YtiflfcpoajijaaaGreatDoor.Mkw (tmarks tmarks_length markOwn_any)

instance : Inhabited Sv := ⟨⟨0, none, 0, 0, none, 0, 0, none, 0, 0⟩⟩
/-- The block G holds n signatures' cells. -/
def RKf (w : World) (G n : Nat) (f : Nat → Sv) : Prop := ∃ A : Array Value, w.heap[G]? = some (.cells A 37 (0, 0)) ∧ ∀ j, j < n → A[j * 4]? = some (.int .i64 (f j).i) ∧ A[j * 4 + 1]? = some (.slice (f j).a1 (f j).n1 (f j).c1) ∧ A[j * 4 + 2]? = some (.slice (f j).a2 (f j).n2 (f j).c2) ∧ A[j * 4 + 3]? = some (.slice (f j).a3 (f j).n3 (f j).c3)
theorem RKf.kept {w w' : World} {G n : Nat} {f : Nat → Sv} (h : RKf w G n f) (hb : w'.heap[G]? = w.heap[G]?) : RKf w' G n f := by obtain ⟨A, h1, h2⟩ := h; exact ⟨A, hb.trans h1, h2⟩
theorem RKf.lt {w : World} {G n : Nat} {f : Nat → Sv} (h : RKf w G n f) : G < w.heap.size := by obtain ⟨A, h1, _⟩ := h; exact (Array.getElem?_eq_some_iff.1 h1).1
theorem RKf.below {w w' : World} {G n : Nat} {f : Nat → Sv} (h : RKf w G n f) (hb : Below w.heap.size w w') : RKf w' G n f := h.kept (hb.block G h.lt)
theorem RKf.cell {w : World} {G n : Nat} {f : Nat → Sv} (h : RKf w G n f) {j : Nat} (hj : j < n) : (w.cell? ⟨G, j * 4, none⟩ = some (.int .i64 (f j).i) ∧ w.frozen? ⟨G, j * 4, none⟩ = false) ∧ w.cell? ⟨G, j * 4 + 1, none⟩ = some (.slice (f j).a1 (f j).n1 (f j).c1) ∧ w.cell? ⟨G, j * 4 + 2, none⟩ = some (.slice (f j).a2 (f j).n2 (f j).c2) ∧ w.cell? ⟨G, j * 4 + 3, none⟩ = some (.slice (f j).a3 (f j).n3 (f j).c3) := by
  obtain ⟨A, h1, h2⟩ := h
  obtain ⟨e0, e1, e2, e3⟩ := h2 j hj
  exact ⟨Rg.blk_cell h1 _ e0, (Rg.blk_cell h1 _ e1).1, (Rg.blk_cell h1 _ e2).1, (Rg.blk_cell h1 _ e3).1⟩
/-- The first i have their marks. -/
def upd (K : Nat) (p : Nat → Sv) (i j : Nat) : Sv := if j < i then { p j with i := ((K + 68 * j : Nat) : Int) } else p j
theorem upd_zero (K : Nat) (p : Nat → Sv) : upd K p 0 = p := by funext j; exact if_neg (by omega)
theorem upd_lt {K : Nat} {p : Nat → Sv} {i j : Nat} (h : j < i) : upd K p i j = { p j with i := ((K + 68 * j : Nat) : Int) } := if_pos h
theorem upd_ge {K : Nat} {p : Nat → Sv} {i j : Nat} (h : ¬ j < i) : upd K p i j = p j := if_neg h
theorem RKf.mark {w : World} {G n K : Nat} {p : Nat → Sv} {i : Nat} (h : RKf w G n (upd K p i)) (hi : i < n) : RKf (w.setCell ⟨G, i * 4, none⟩ (.int .i64 ((K + 68 * i : Nat) : Int))) G n (upd K p (i + 1)) := by
  obtain ⟨A, h1, h2⟩ := h
  refine ⟨_, Rg.blk_set h1 _ _, fun j hj => ?_⟩
  obtain ⟨e0, e1, e2, e3⟩ := h2 j hj
  have hs : i * 4 < A.size := (Array.getElem?_eq_some_iff.1 (h2 i hi).1).1
  simp only [Array.getElem?_setIfInBounds]
  rw [if_neg (by omega : ¬ i * 4 = j * 4 + 1), if_neg (by omega : ¬ i * 4 = j * 4 + 2), if_neg (by omega : ¬ i * 4 = j * 4 + 3), e1, e2, e3]
  by_cases e : i = j
  · subst e
    rw [if_pos rfl, if_pos hs, upd_lt (by omega : i < i + 1), upd_ge (by omega : ¬ i < i)]
    exact ⟨rfl, rfl, rfl, rfl⟩
  · rw [if_neg (by omega : ¬ i * 4 = j * 4), e0]
    by_cases hlt : j < i
    · rw [upd_lt hlt, upd_lt (by omega : j < i + 1)]
      exact ⟨rfl, rfl, rfl, rfl⟩
    · rw [upd_ge hlt, upd_ge (by omega : ¬ j < i + 1)]
      exact ⟨rfl, rfl, rfl, rfl⟩
theorem rowT_kept {w w' : World} {v : Value} {ts : List ByteArray} (h : RowT w v ts) (hs : w.heap.size ≤ w'.heap.size) (hk : ∀ k, v.ownBlock = some k → w'.heap[k]? = w.heap[k]?) : RowT w' v ts := by
  obtain ⟨a, cap, rfl, h⟩ := h
  refine ⟨a, cap, rfl, ?_⟩
  rcases h with h | ⟨b, off, rfl, hc, hb, hcell⟩
  · exact .inl h
  · refine .inr ⟨b, off, rfl, hc, Nat.lt_of_lt_of_le hb hs, fun i hi => ?_⟩
    rw [← hcell i hi]
    simp only [World.cell?, hk b (by rfl)]
def MkT (w : World) (p : Sv) (a : Nat) : Prop := RowT w (.slice p.a1 p.n1 p.c1) (tmarks (a + 1) 32) ∧ RowT w (.slice p.a2 p.n2 p.c2) (tmarks (a + 33) 32) ∧ RowT w (.slice p.a3 p.n3 p.c3) (tmarks (a + 65) 3)
theorem MkT.below {w w' : World} {p : Sv} {a : Nat} (h : MkT w p a) (hb : Below w.heap.size w w') : MkT w' p a := ⟨h.1.below hb, h.2.1.below hb, h.2.2.below hb⟩
theorem MkT.kept {w w' : World} {p : Sv} {a : Nat} (h : MkT w p a) (hs : w.heap.size ≤ w'.heap.size) (hk : ∀ g, Bk p g → w'.heap[g]? = w.heap[g]?) : MkT w' p a := ⟨rowT_kept h.1 hs (fun g hg => hk g (.inl hg)), rowT_kept h.2.1 hs (fun g hg => hk g (.inr (.inl hg))), rowT_kept h.2.2 hs (fun g hg => hk g (.inr (.inr hg)))⟩
/-- Three lists are marked one after another. -/
theorem three_marks {w1 w2 w3 w4 : World} {B : Nat} {p : Sv} {k : Ks} {a : Nat} (h : SigP w1 B p k) (hB : B ≤ w1.heap.size) (r1 : RowT w2 (.slice p.a1 p.n1 p.c1) (tmarks (a + 1) 32)) (k1 : Kp w1 w2 (.slice p.a1 p.n1 p.c1) (.slice p.a1 p.n1 p.c1)) (r2 : RowT w3 (.slice p.a2 p.n2 p.c2) (tmarks (a + 33) 32)) (k2 : Kp w2 w3 (.slice p.a2 p.n2 p.c2) (.slice p.a2 p.n2 p.c2)) (r3 : RowT w4 (.slice p.a3 p.n3 p.c3) (tmarks (a + 65) 3)) (k3 : Kp w3 w4 (.slice p.a3 p.n3 p.c3) (.slice p.a3 p.n3 p.c3)) :
    MkT w4 p a ∧ (∀ x, x < w1.heap.size → ¬ Bk p x → w4.heap[x]? = w1.heap[x]?) ∧ Below B w1 w4 := by
  have l1 := fun g hg => (OwnS.lt' h.2.oa g hg).2
  have l2 := fun g hg => (OwnS.lt' h.2.ob g hg).2
  refine ⟨⟨?_, ?_, r3⟩, fun x hx hn => ?_, ?_⟩
  · refine rowT_kept r1 (Nat.le_trans k2.size k3.size) (fun g hg => ?_)
    rw [k3.block g (by have := l1 g hg; have := k1.size; have := k2.size; omega) (fun e => h.2.ac g hg e.symm), k2.block g (by have := l1 g hg; have := k1.size; omega) (fun e => h.2.ab g hg e.symm)]
  · refine rowT_kept r2 k3.size (fun g hg => ?_)
    rw [k3.block g (by have := l2 g hg; have := k1.size; have := k2.size; omega) (fun e => h.2.bc g hg e.symm)]
  · rw [k3.block x (by have := k1.size; have := k2.size; omega) (fun e => hn (.inr (.inr e.symm))), k2.block x (by have := k1.size; omega) (fun e => hn (.inr (.inl e.symm))), k1.block x hx (fun e => hn (.inl e.symm))]
  · refine ⟨k3.os.trans (k2.os.trans k1.os), k3.tape.trans (k2.tape.trans k1.tape), k3.output.trans (k2.output.trans k1.output), Nat.le_trans k1.size (Nat.le_trans k2.size k3.size), fun x hx => ?_⟩
    have hx1 : x < w1.heap.size := by omega
    have nb : ¬ Bk p x := fun hb => by have := (h.lt hb).1; omega
    rw [k3.block x (by have := k1.size; have := k2.size; omega) (fun e => nb (.inr (.inr e.symm))), k2.block x (by have := k1.size; omega) (fun e => nb (.inr (.inl e.symm))), k1.block x hx1 (fun e => nb (.inl e.symm))]
theorem rowT_lt {w : World} {v : Value} {ts : List ByteArray} (h : RowT w v ts) (h0 : 0 < ts.length) {g : Nat} (hg : v.ownBlock = some g) : g < w.heap.size := by
  obtain ⟨a, cap, rfl, h⟩ := h
  rcases h with h | ⟨b, off, rfl, _, hb, _⟩
  · rw [h] at h0; simp at h0
  · have e : b = g := by simpa [Value.ownBlock] using hg
    rw [← e]; exact hb
/-- While signatures are marked. -/
structure Nv (w w' : World) (B G n K : Nat) (p : Nat → Sv) (k : Nat → Ks) (i : Nat) : Prop where
  rk : RKf w' G n (upd K p i)
  mkd : ∀ j, j < i → j < n → MkT w' (p j) (K + 68 * j)
  fr : ∀ j, i ≤ j → j < n → SigP w' B (p j) (k j)
  be : Below B w w'
  bG : B ≤ G
  bW : B ≤ w.heap.size
  ot : ∀ (x : Nat) (A : Array Value) (t : TypeId) (f : Nat × Nat), t ≠ 9 → t ≠ 37 → w.heap[x]? = some (.cells A t f) → w'.heap[x]? = some (.cells A t f)
structure Od (n : Nat) (p : Nat → Sv) (k : Nat → Ks) : Prop where
  ord : ∀ i j, i < j → j < n → ∀ g h, Bk (p i) g → Bk (p j) h → g < h
  len : ∀ j, j < n → (k j).a.length = 32 ∧ (k j).b.length = 32 ∧ (k j).c.length = 3
theorem sigP_kind {w : World} {B : Nat} {p : Sv} {k : Ks} (h : SigP w B p k) {g : Nat} (hg : Bk p g) : ∃ A f, w.heap[g]? = some (.cells A 9 f) := by
  rcases hg with hg | hg | hg
  · exact ownS_kind h.2.oa g hg
  · exact ownS_kind h.2.ob g hg
  · exact ownS_kind h.2.oc g hg
theorem Nv.ne {w w' : World} {B G n K : Nat} {p : Nat → Sv} {k : Nat → Ks} {i : Nat} (h : Nv w w' B G n K p k i) {j : Nat} (hj : i ≤ j) (hn : j < n) : ¬ Bk (p j) G := fun hb => by
  obtain ⟨A, h1, _⟩ := h.rk
  obtain ⟨_, _, h2⟩ := sigP_kind (h.fr j hj hn) hb
  exact kind_ne h2 h1 (by decide) rfl
/-- One more is marked: its number, then its lists. -/
theorem Nv.step {w wr w4 : World} {B G n K : Nat} {p : Nat → Sv} {k : Nat → Ks} {i : Nat} (h : Nv w wr B G n K p k i) (hd : Od n p k) (hi : i < n) (hGk : ∀ j, j < i → ¬ Bk (p j) G)
    (hm : MkT w4 (p i) (K + 68 * i)) (hf : ∀ x, x < wr.heap.size → ¬ Bk (p i) x → w4.heap[x]? = (wr.setCell ⟨G, i * 4, none⟩ (.int .i64 ((K + 68 * i : Nat) : Int))).heap[x]?) (hb : Below B (wr.setCell ⟨G, i * 4, none⟩ (.int .i64 ((K + 68 * i : Nat) : Int))) w4) : Nv w w4 B G n K p k (i + 1) := by
  have hs : wr.heap.size ≤ w4.heap.size := by have := hb.size; simpa using this
  have hG := h.rk.lt
  refine ⟨(h.rk.mark hi).kept (hf G hG (h.ne (Nat.le_refl _) hi)), fun j hj hn => ?_, fun j hj hn => ?_, ?_, h.bG, h.bW, fun x A t f ht1 ht2 hx => ?_⟩
  · by_cases e : j = i
    · rw [e]; exact hm
    · have hji : j < i := by omega
      refine (h.mkd j hji hn).kept hs (fun g hg => ?_)
      have hgl : g < wr.heap.size := by
        have hm0 := h.mkd j hji hn
        rcases hg with hg | hg | hg
        · exact rowT_lt hm0.1 (by rw [tmarks_length]; decide) hg
        · exact rowT_lt hm0.2.1 (by rw [tmarks_length]; decide) hg
        · exact rowT_lt hm0.2.2 (by rw [tmarks_length]; decide) hg
      rw [hf g hgl (fun hb2 => Nat.lt_irrefl _ (hd.ord j i hji hi g g hg hb2))]
      exact Rg.blk_far (fun e2 => hGk j hji (by rw [← e2]; exact hg)) _ _
  · have hp := h.fr j (by omega) hn
    refine hp.kept (fun g hg => ?_)
    rw [hf g (hp.lt hg).2 (fun hb2 => Nat.lt_irrefl _ (hd.ord i j (by omega) hn g g hb2 hg))]
    exact Rg.blk_far (fun e2 => h.ne (j := j) (by omega) hn (by rw [← e2]; exact hg)) _ _
  · exact (h.be.setCell (p := ⟨G, i * 4, none⟩) h.bG _).trans hb
  · have h1 := h.ot x A t f ht1 ht2 hx
    obtain ⟨A2, h2, _⟩ := h.rk
    have hne : x ≠ G := kind_ne h1 h2 ht2
    have hnb : ¬ Bk (p i) x := fun hb2 => by
      obtain ⟨_, _, h3⟩ := sigP_kind (h.fr i (Nat.le_refl _) hi) hb2
      exact kind_ne h1 h3 ht1 rfl
    rw [hf x (Array.getElem?_eq_some_iff.1 h1).1 hnb, Rg.blk_far hne]
    exact h1
set_option maxRecDepth 100000 in
set_option maxHeartbeats 3200000 in
theorem markKS_zero (ad : Option Addr) (cap : Nat) (a : Int) (w : World) : Calls Tryz.prog 48 #[.slice ad 0 cap, .int .i64 a] w fun e w' => e = .returned (.int .i64 a) ∧ w' = w := by
  go_enter Tryz.func48, Tryz.ntmps48
  go_wp2_with fail
  go_loopw [1, 5] (fun k i wr => k = .int .i64 a ∧ i = .int .i64 0 ∧ wr = w) (fun _ _ _ => 0)
  case atStart => exact ⟨rfl, rfl, rfl⟩
  case round =>
    obtain ⟨rfl, rfl, rfl⟩ := hrel
    go_wp2
    go_ret
    exact ⟨rfl, rfl⟩
set_option maxRecDepth 100000 in
set_option maxHeartbeats 3200000 in
theorem heldKS_zero (ad : Option Addr) (cap : Nat) (a : Int) (w : World) : Calls Tryz.prog 50 #[.slice ad 0 cap, .int .i64 a] w fun e w' => e = .returned (.int .i64 a) ∧ w' = w := by
  go_enter Tryz.func50, Tryz.ntmps50
  go_wp2_with fail
  go_loopw [1, 5] (fun k i wr => k = .int .i64 a ∧ i = .int .i64 0 ∧ wr = w) (fun _ _ _ => 0)
  case atStart => exact ⟨rfl, rfl, rfl⟩
  case round =>
    obtain ⟨rfl, rfl, rfl⟩ := hrel
    go_wp2
    go_ret
    exact ⟨rfl, rfl⟩
set_option maxRecDepth 100000 in
set_option maxHeartbeats 3200000 in
theorem markKS_any (G n cap K B : Nat) (p : Nat → Sv) (k : Nat → Ks) (w : World) (h : Nv w w B G n K p k 0) (hd : Od n p k) (hGk : ∀ j, j < n → ¬ Bk (p j) G) (hn : n ≤ 3) (hK : 0 < K) (hK2 : K ≤ 1000) :
    Calls Tryz.prog 48 #[.slice (some ⟨G, 0, none⟩) n cap, .int .i64 (K : Int)] w fun e w' => e = .returned (.int .i64 ((K + 68 * n : Nat) : Int)) ∧ Hid (Nv w w' B G n K p k n) := by
  have H0 : Hid (Nv w w B G n K p k 0) := h
  have HD : Hid (Od n p k ∧ (∀ j, j < n → ¬ Bk (p j) G) ∧ 0 < K ∧ K ≤ 1000 ∧ n ≤ 3) := ⟨hd, hGk, hK, hK2, hn⟩
  clear h hd hGk hK hK2
  go_enter Tryz.func48, Tryz.ntmps48
  go_wp2_with fail
  go_loopw [1, 5] (fun kk i wr => ∃ q : Nat, q ≤ n ∧ kk = .int .i64 ((K + 68 * q : Nat) : Int) ∧ i = .int .i64 q ∧ Hid (Nv w wr B G n K p k q)) (fun _ i _ => n - (intOf i).toNat)
  case atStart => exact ⟨0, by omega, by simp, rfl, H0.out⟩
  case round =>
    clear H0
    obtain ⟨q, hq, rfl, rfl, HN⟩ := hrel
    obtain ⟨kq, HKQ⟩ : ∃ kq : Nat, Hid (K + 68 * q = kq) := ⟨_, rfl⟩
    have hkq1 : kq ≤ 2000 := by rw [← HKQ.out]; have := HD.out; omega
    have hkq0 : 0 < kq := by rw [← HKQ.out]; have := HD.out; omega
    rw [HKQ.out]
    by_cases hlt : q < n
    · have hltI : (q : Int) < (n : Int) := by omega
      obtain ⟨⟨c0, f0⟩, c1, c2, c3⟩ := HN.out.rk.cell hlt
      rw [upd_ge (by omega : ¬ q < q)] at c0 c1 c2 c3
      have HNW : Hid (∀ x, x = wr.setCell ⟨G, q * 4, none⟩ (.int .i64 (kq : Int)) → RKf x G n (upd K p (q + 1)) ∧ SigP x B (p q) (k q) ∧ B ≤ x.heap.size) := fun x hx => by
        subst hx
        have h1 := HN.out.rk.mark hlt
        rw [HKQ.out] at h1
        refine ⟨h1, (HN.out.fr q (Nat.le_refl _) hlt).kept (fun g hg => Rg.blk_far (fun e2 => HN.out.ne (Nat.le_refl _) hlt (by rw [← e2]; exact hg)) _ _), ?_⟩
        have := HN.out.be.size; have := HN.out.bW; simp; omega
      go_upto_region 6 with fail
      obtain ⟨w1, HW1⟩ : ∃ w1, Hid (w1 = wr.setCell ⟨G, q * 4, none⟩ (.int .i64 (kq : Int))) := ⟨_, rfl⟩
      rw [← HW1.out]
      clear c0 f0 c1 c2 c3
      obtain ⟨r1, s1, z1⟩ := HNW.out w1 HW1.out
      have HS1 : Hid (RKf w1 G n (upd K p (q + 1)) ∧ SigP w1 B (p q) (k q) ∧ B ≤ w1.heap.size) := ⟨r1, s1, z1⟩
      clear HNW r1 s1 z1
      obtain ⟨_, c1, _, _⟩ := HS1.out.1.cell hlt
      rw [upd_lt (by omega : q < q + 1)] at c1
      have HM1 : Hid (Calls Tryz.prog 79 #[.slice (p q).a1 (p q).n1 (p q).c1, .int .i64 ((kq : Int) + 1)] w1 fun e w' => e = .returned (.int .i64 ((kq + 33 : Nat) : Int)) ∧ RowT w' (.slice (p q).a1 (p q).n1 (p q).c1) (tmarks (kq + 1) 32) ∧ Kp w1 w' (.slice (p q).a1 (p q).n1 (p q).c1) (.slice (p q).a1 (p q).n1 (p q).c1)) := by
        have hh := markOwn_any _ (k q).a (kq + 1) B 32 w1 HS1.out.2.1.2.oa (HD.out.1.len q hlt).1 (by omega) (by omega) (by decide)
        rw [show ((kq + 1 : Nat) : Int) = (kq : Int) + 1 by omega, show kq + 1 + 32 = kq + 33 by omega] at hh
        exact hh
      go_wp2_with fail
      refine HM1.out.mono ?_
      rintro e w2 ⟨rfl, m1, k1⟩
      have HK2 : Hid (RowT w2 (.slice (p q).a1 (p q).n1 (p q).c1) (tmarks (kq + 1) 32) ∧ Kp w1 w2 (.slice (p q).a1 (p q).n1 (p q).c1) (.slice (p q).a1 (p q).n1 (p q).c1)) := ⟨m1, k1⟩
      have HR2 : Hid (RKf w2 G n (upd K p (q + 1))) := HS1.out.1.kept (k1.block G HS1.out.1.lt (fun e => HD.out.2.1 q hlt (.inl e.symm)))
      have HO2 : Hid (OwnS w2 B (.slice (p q).a2 (p q).n2 (p q).c2) (k q).b ∧ OwnS w2 B (.slice (p q).a3 (p q).n3 (p q).c3) (k q).c) := ⟨OwnS.kept HS1.out.2.1.2.ob (asym HS1.out.2.1.2.ab) k1, OwnS.kept HS1.out.2.1.2.oc (asym HS1.out.2.1.2.ac) k1⟩
      clear m1 k1 c1 HM1
      obtain ⟨_, _, c2, _⟩ := HR2.out.cell hlt
      rw [upd_lt (by omega : q < q + 1)] at c2
      obtain ⟨k33, H33⟩ : ∃ x : Nat, Hid (kq + 33 = x) := ⟨_, rfl⟩
      have HM2 : Hid (Calls Tryz.prog 79 #[.slice (p q).a2 (p q).n2 (p q).c2, .int .i64 (k33 : Int)] w2 fun e w' => e = .returned (.int .i64 ((kq + 65 : Nat) : Int)) ∧ RowT w' (.slice (p q).a2 (p q).n2 (p q).c2) (tmarks (kq + 33) 32) ∧ Kp w2 w' (.slice (p q).a2 (p q).n2 (p q).c2) (.slice (p q).a2 (p q).n2 (p q).c2)) := by
        have hh := markOwn_any _ (k q).b (kq + 33) B 32 w2 HO2.out.1 (HD.out.1.len q hlt).2.1 (by omega) (by omega) (by decide)
        rw [show kq + 33 + 32 = kq + 65 by omega] at hh
        rw [← H33.out]
        exact hh
      rw [H33.out]
      go_wp2_with fail
      refine HM2.out.mono ?_
      rintro e w3 ⟨rfl, m2, k2⟩
      have HK3 : Hid (RowT w3 (.slice (p q).a2 (p q).n2 (p q).c2) (tmarks (kq + 33) 32) ∧ Kp w2 w3 (.slice (p q).a2 (p q).n2 (p q).c2) (.slice (p q).a2 (p q).n2 (p q).c2)) := ⟨m2, k2⟩
      have HR3 : Hid (RKf w3 G n (upd K p (q + 1))) := HR2.out.kept (k2.block G HR2.out.lt (fun e => HD.out.2.1 q hlt (.inr (.inl e.symm))))
      have HO3 : Hid (OwnS w3 B (.slice (p q).a3 (p q).n3 (p q).c3) (k q).c) := OwnS.kept HO2.out.2 (asym HS1.out.2.1.2.bc) k2
      clear m2 k2 c2 HM2
      obtain ⟨_, _, _, c3⟩ := HR3.out.cell hlt
      rw [upd_lt (by omega : q < q + 1)] at c3
      obtain ⟨k65, H65⟩ : ∃ x : Nat, Hid (kq + 65 = x) := ⟨_, rfl⟩
      have HM3 : Hid (Calls Tryz.prog 79 #[.slice (p q).a3 (p q).n3 (p q).c3, .int .i64 (k65 : Int)] w3 fun e w' => e = .returned (.int .i64 ((K + 68 * (q + 1) : Nat) : Int)) ∧ RowT w' (.slice (p q).a3 (p q).n3 (p q).c3) (tmarks (kq + 65) 3) ∧ Kp w3 w' (.slice (p q).a3 (p q).n3 (p q).c3) (.slice (p q).a3 (p q).n3 (p q).c3)) := by
        have hh := markOwn_any _ (k q).c (kq + 65) B 3 w3 HO3.out (HD.out.1.len q hlt).2.2 (by omega) (by omega) (by decide)
        rw [show kq + 65 + 3 = K + 68 * (q + 1) by rw [← HKQ.out]; omega] at hh
        rw [← H65.out]
        exact hh
      obtain ⟨kn, HKN⟩ : ∃ kn : Nat, Hid (K + 68 * (q + 1) = kn) := ⟨_, rfl⟩
      rw [HKN.out] at HM3
      rw [H65.out]
      go_wp2_with fail
      refine HM3.out.mono ?_
      rintro e w4 ⟨rfl, m3, k3⟩
      have hfin : Nv w w4 B G n K p k (q + 1) := by
        obtain ⟨t1, t2, t3⟩ := three_marks (a := kq) HS1.out.2.1 HS1.out.2.2 HK2.out.1 HK2.out.2 HK3.out.1 HK3.out.2 m3 k3
        have hw1 := HW1.out
        rw [← HKQ.out] at hw1 t1
        rw [hw1] at t2 t3
        exact HN.out.step HD.out.1 hlt (fun j hj => HD.out.2.1 j (by omega)) t1 (fun x hx => t2 x (by simpa using hx)) t3
      have HF : Hid (Nv w w4 B G n K p k (q + 1)) := hfin
      clear m3 k3 c3 HM3 hfin
      go_wp2_with fail
      exact ⟨⟨q + 1, by omega, by rw [HKN.out], by go_num, HF.out⟩, by simp [intOf]; omega⟩
    · obtain rfl : q = n := by omega
      go_wp2_with fail
      go_ret
      exact ⟨by have h := HKQ.out; subst h; first | rfl | simp, HN.out⟩
end Go.Proofs.YtiflfcpoajijaaaGreatDoor.Kc

/- Marks on a certificate; they hold. -/
namespace Go.Proofs.YtiflfcpoajijaaaGreatDoor.Kc
open Go.RowKit Go.Proofs.YtiflfcpoajijaaaGreatDoor.Sl Go.Proofs.YtiflfcpoajijaaaGreatDoor.By Go.Proofs.YtiflfcpoajijaaaGreatDoor.Ap Go.Proofs.YtiflfcpoajijaaaGreatDoor.Tx Go.Proofs.YtiflfcpoajijaaaGreatDoor.Sg
open Go.Proofs.YtiflfcpoajijaaaGreatDoor.Gr12 (Gg gV grB)
open Go.Proofs.YtiflfcpoajijaaaGreatDoor.Is (RowI OwnI)
open Go.Proofs.YtiflfcpoajijaaaGreatDoor.Mkw (tmarks tmarks_length markOwn_any heldStringS_any)
open Go.Proofs.YtiflfcpoajijaaaGreatDoor.Mi12 (MI MI.kept MI.lt MI.below markInts heldInts markInt_nil heldInt_nil)
theorem ownI_mi {w : World} {B : Nat} {v : Value} {ns : List Int} (h : OwnI w B v ns) (h1 : 1 ≤ ns.length) : ∃ g cap, v = .slice (some ⟨g, 0, none⟩) ns.length cap ∧ B ≤ g ∧ MI w g ns.length (nth ns) := by
  rcases h.2 with ⟨_, h0⟩ | ⟨g, cap, cur, rfl, hb, hg, _, _, _, htk⟩
  · rw [h0] at h1; omega
  · refine ⟨g, cap, rfl, hb, cur, hg, fun i hi => ?_⟩
    have e := congrArg (fun l => l[i]?) htk
    simp only [List.getElem?_take, List.getElem?_map] at e
    rw [if_pos (by omega), Is.nth_at hi] at e
    rw [← Array.getElem?_toList, e]
    rfl
theorem ownK_rk {w : World} {B : Nat} {v : Value} {ps : List Sv} (h : OwnK w B v ps) (h1 : 1 ≤ ps.length) : ∃ G cap, v = .slice (some ⟨G, 0, none⟩) ps.length cap ∧ B ≤ G ∧ RKf w G ps.length (fun j => ps.getD j default) := by
  rcases h.2 with ⟨_, h0⟩ | ⟨g, cap, cur, rfl, hb, hg, hc, _, hs, htk⟩
  · rw [h0] at h1; omega
  · refine ⟨g, cap, rfl, hb, cur, hg, fun j hj => ?_⟩
    obtain ⟨x, hx⟩ := Rg.get_at (xs := ps) (k := j) hj
    have hxd : ps.getD j default = x := by rw [List.getD_eq_getElem?_getD, hx]; rfl
    have key : ∀ m u, m < 4 → (clK x)[m]? = some u → cur[j * 4 + m]? = some u := fun m u hm hu => by
      have e1 := atK ps j x m hx hm
      rw [← htk, List.getElem?_take, if_pos (by omega)] at e1
      rw [← Array.getElem?_toList, e1, hu]
    simp only [hxd]
    exact ⟨key 0 _ (by decide) rfl, key 1 _ (by decide) rfl, key 2 _ (by decide) rfl, key 3 _ (by decide) rfl⟩
set_option maxRecDepth 100000 in
set_option maxHeartbeats 3200000 in
theorem heldKS_any (G n cap K : Nat) (p : Nat → Sv) (w : World) (hr : RKf w G n (upd K p n)) (hm : ∀ j, j < n → MkT w (p j) (K + 68 * j)) (hn : n ≤ 3) (hK : 0 < K) (hK2 : K ≤ 1000) :
    Calls Tryz.prog 50 #[.slice (some ⟨G, 0, none⟩) n cap, .int .i64 (K : Int)] w fun e w' => e = .returned (.int .i64 ((K + 68 * n : Nat) : Int)) ∧ Below w.heap.size w w' := by
  have HD : Hid (∀ W, Below w.heap.size w W → RKf W G n (upd K p n) ∧ ∀ j, j < n → MkT W (p j) (K + 68 * j)) := fun W hW => ⟨hr.below hW, fun j hj => (hm j hj).below hW⟩
  have HB : Hid (0 < K ∧ K ≤ 1000 ∧ n ≤ 3) := ⟨hK, hK2, hn⟩
  clear hr hm hK hK2
  go_enter Tryz.func50, Tryz.ntmps50
  go_wp2_with fail
  go_loopw [1, 5] (fun kk i wr => ∃ q : Nat, q ≤ n ∧ kk = .int .i64 ((K + 68 * q : Nat) : Int) ∧ i = .int .i64 q ∧ Hid (Below w.heap.size w wr)) (fun _ i _ => n - (intOf i).toNat)
  case atStart => exact ⟨0, by omega, by simp, rfl, Below.refl _ _⟩
  case round =>
    obtain ⟨q, hq, rfl, rfl, HN⟩ := hrel
    obtain ⟨kq, HKQ⟩ : ∃ kq : Nat, Hid (K + 68 * q = kq) := ⟨_, rfl⟩
    have hkq1 : kq ≤ 2000 := by rw [← HKQ.out]; have := HB.out; omega
    have hkq0 : 0 < kq := by rw [← HKQ.out]; have := HB.out; omega
    rw [HKQ.out]
    by_cases hlt : q < n
    · have hltI : (q : Int) < (n : Int) := by omega
      obtain ⟨⟨c0, _⟩, c1, _, _⟩ := (HD.out wr HN.out).1.cell hlt
      rw [upd_lt hlt] at c0 c1
      simp only [HKQ.out] at c0
      have hne : ((kq : Int) != (kq : Int)) = false := by simp
      have HM1 : Hid (Calls Tryz.prog 80 #[.slice (p q).a1 (p q).n1 (p q).c1, .int .i64 ((kq : Int) + 1)] wr fun e w' => e = .returned (.int .i64 ((kq + 33 : Nat) : Int)) ∧ Below wr.heap.size wr w') := by
        have h0 := ((HD.out wr HN.out).2 q hlt).1
        rw [HKQ.out] at h0
        have hh := heldStringS_any _ 32 (kq + 1) wr h0 (by omega) (by omega) (by decide)
        rw [show ((kq + 1 : Nat) : Int) = (kq : Int) + 1 by omega, show (kq : Int) + 1 + ((32 : Nat) : Int) = ((kq + 33 : Nat) : Int) by omega] at hh
        exact hh
      go_wp2_with fail
      refine HM1.out.mono ?_
      rintro e w2 ⟨rfl, b2⟩
      have B2 : Hid (Below w.heap.size w w2) := HN.out.trans (b2.mono HN.out.size)
      clear b2 c0 c1 HM1 hne
      obtain ⟨_, _, c2, _⟩ := (HD.out w2 B2.out).1.cell hlt
      rw [upd_lt hlt] at c2
      obtain ⟨k33, H33⟩ : ∃ x : Nat, Hid (kq + 33 = x) := ⟨_, rfl⟩
      have HM2 : Hid (Calls Tryz.prog 80 #[.slice (p q).a2 (p q).n2 (p q).c2, .int .i64 (k33 : Int)] w2 fun e w' => e = .returned (.int .i64 ((kq + 65 : Nat) : Int)) ∧ Below w2.heap.size w2 w') := by
        have h0 := ((HD.out w2 B2.out).2 q hlt).2.1
        rw [HKQ.out] at h0
        have hh := heldStringS_any _ 32 (kq + 33) w2 h0 (by omega) (by omega) (by decide)
        rw [show ((kq + 33 : Nat) : Int) + ((32 : Nat) : Int) = ((kq + 65 : Nat) : Int) by omega] at hh
        rw [← H33.out]
        exact hh
      have hk33 : ¬ (k33 : Int) < 0 := by omega
      rw [H33.out]
      go_wp2_with fail
      refine HM2.out.mono ?_
      rintro e w3 ⟨rfl, b3⟩
      have B3 : Hid (Below w.heap.size w w3) := B2.out.trans (b3.mono B2.out.size)
      clear b3 c2 HM2 hk33
      obtain ⟨_, _, _, c3⟩ := (HD.out w3 B3.out).1.cell hlt
      rw [upd_lt hlt] at c3
      obtain ⟨k65, H65⟩ : ∃ x : Nat, Hid (kq + 65 = x) := ⟨_, rfl⟩
      obtain ⟨kn, HKN⟩ : ∃ kn : Nat, Hid (K + 68 * (q + 1) = kn) := ⟨_, rfl⟩
      have HM3 : Hid (Calls Tryz.prog 80 #[.slice (p q).a3 (p q).n3 (p q).c3, .int .i64 (k65 : Int)] w3 fun e w' => e = .returned (.int .i64 (kn : Int)) ∧ Below w3.heap.size w3 w') := by
        have h0 := ((HD.out w3 B3.out).2 q hlt).2.2
        rw [HKQ.out] at h0
        have hh := heldStringS_any _ 3 (kq + 65) w3 h0 (by omega) (by omega) (by decide)
        rw [show ((kq + 65 : Nat) : Int) + ((3 : Nat) : Int) = (kn : Int) by rw [← HKN.out, ← HKQ.out]; omega] at hh
        rw [← H65.out]
        exact hh
      have hk65 : ¬ (k65 : Int) < 0 := by omega
      have hkn : ¬ (kn : Int) < 0 := by omega
      rw [H65.out]
      go_wp2_with fail
      refine HM3.out.mono ?_
      rintro e w4 ⟨rfl, b4⟩
      have B4 : Hid (Below w.heap.size w w4) := B3.out.trans (b4.mono B3.out.size)
      clear b4 c3 HM3
      go_wp2_with fail
      exact ⟨⟨q + 1, by omega, by rw [HKN.out], by go_num, B4.out⟩, by simp [intOf]; omega⟩
    · obtain rfl : q = n := by omega
      go_wp2_with fail
      go_ret
      exact ⟨by have h := HKQ.out; subst h; first | rfl | simp, HN.out⟩
/-- A certificate whose lists bear the marks from one on. -/
def MkC (w : World) (vn vs : Value) (N : Nat) : Prop := ∃ (gn cn : Nat) (f : Nat → Int) (G cs : Nat) (p : Nat → Sv), vn = .slice (some ⟨gn, 0, none⟩) N cn ∧ vs = .slice (some ⟨G, 0, none⟩) N cs ∧ MI w gn N f ∧ (∀ j, j < N → f j = ((1 + j : Nat) : Int)) ∧ RKf w G N (upd (1 + N) p N) ∧ ∀ j, j < N → MkT w (p j) (1 + N + 68 * j)
theorem MkC.below {w w' : World} {vn vs : Value} {N : Nat} (h : MkC w vn vs N) (hb : Below w.heap.size w w') : MkC w' vn vs N := by
  obtain ⟨gn, cn, f, G, cs, p, e1, e2, h1, h2, h3, h4⟩ := h
  exact ⟨gn, cn, f, G, cs, p, e1, e2, h1.below hb, h2, h3.below hb, fun j hj => (h4 j hj).below hb⟩
theorem getD_at {α : Type} {xs : List α} {d x : α} {j : Nat} (h : xs[j]? = some x) : xs.getD j d = x := by rw [List.getD_eq_getElem?_getD, h]; rfl
theorem Ce.nv {w : World} {B K : Nat} {vn vs : Value} {ns : List Int} {ks : List Ks} (h : Ce w B vn vs ns ks) (hB : B ≤ w.heap.size) (h1 : 1 ≤ ks.length) (hl : ∀ k ∈ ks, k.a.length = 32 ∧ k.b.length = 32 ∧ k.c.length = 3) :
    ∃ (G cap : Nat) (p : Nat → Sv) (k : Nat → Ks), vs = .slice (some ⟨G, 0, none⟩) ks.length cap ∧ Nv w w B G ks.length K p k 0 ∧ Od ks.length p k ∧ ∀ j, j < ks.length → ¬ Bk (p j) G := by
  obtain ⟨ps, h2, h3⟩ := h.sg
  have hlen := h3.len
  obtain ⟨G, cap, e, hG, hr⟩ := ownK_rk h2 (by omega)
  have hsp : ∀ j, j < ks.length → SigP w B (ps.getD j default) (ks.getD j default) := fun j hj => by
    obtain ⟨x, hx⟩ := Rg.get_at (xs := ps) (k := j) (by omega)
    obtain ⟨y, hy⟩ := Rg.get_at (xs := ks) (k := j) hj
    rw [getD_at hx, getD_at hy]
    exact h3.at_ j x y hx hy
  refine ⟨G, cap, fun j => ps.getD j default, fun j => ks.getD j default, by rw [e, hlen], ⟨by rw [upd_zero, ← hlen]; exact hr, fun j hj => absurd hj (by omega), fun j _ hj => hsp j hj, Below.refl _ _, hG, hB, fun _ _ _ _ _ _ hx => hx⟩, ⟨fun i j hij hj g g2 hg hg2 => ?_, fun j hj => ?_⟩, fun j hj hb => ?_⟩
  · obtain ⟨x, hx⟩ := Rg.get_at (xs := ps) (k := i) (by omega)
    obtain ⟨y, hy⟩ := Rg.get_at (xs := ps) (k := j) (by omega)
    rw [getD_at hx] at hg
    rw [getD_at hy] at hg2
    exact h3.ord i j x y hij hx hy g g2 hg hg2
  · obtain ⟨y, hy⟩ := Rg.get_at (xs := ks) (k := j) hj
    show (ks.getD j default).a.length = 32 ∧ (ks.getD j default).b.length = 32 ∧ (ks.getD j default).c.length = 3
    rw [getD_at hy]
    exact hl y (List.mem_of_getElem? hy)
  · obtain ⟨A, hA, _⟩ := hr
    obtain ⟨_, _, h4⟩ := sigP_kind (hsp j hj) hb
    exact kind_ne h4 hA (by decide) rfl
theorem Ce.grown {w w' : World} {B gn : Nat} {vn vs : Value} {ns : List Int} {ks : List Ks} (h : Ce w B vn vs ns ks) (hg : w.grownBy w' (some gn)) {A : Array Value} {f : Nat × Nat} (hk : w.heap[gn]? = some (.cells A 3 f)) : ∃ ps, OwnK w' B vs ps ∧ HV B w' ps ks := by
  obtain ⟨ps, h2, h3⟩ := h.sg
  refine ⟨ps, h2.kept (fun x hx => hg.block x (h2.lt x hx).2 (fun e => ?_)), h3.kept (fun x _ hx ⟨p, hp, hb⟩ => hg.block x hx (fun e => ?_))⟩
  · cases e
    obtain ⟨_, _, q⟩ := ownK_kind h2 _ hx
    exact kind_ne q hk (by decide) rfl
  · cases e
    obtain ⟨_, _, q⟩ := h3.kind hp hb
    exact kind_ne q hk (by decide) rfl
set_option maxRecDepth 100000 in
set_option maxHeartbeats 3200000 in
theorem markC_any (g : Gg) (vn vs : Value) (ns : List Int) (ks : List Ks) (B : Nat) (w : World) (h : Ce w B vn vs ns ks) (hB : B ≤ w.heap.size) (h1 : 1 ≤ ns.length) (h3 : ns.length ≤ 3) (hk : ks.length = ns.length) (hl : ∀ k ∈ ks, k.a.length = 32 ∧ k.b.length = 32 ∧ k.c.length = 3) :
    Calls Tryz.prog 22 #[crV g vn vs, .int .i64 1] w fun e w' => e = .returned (.int .i64 ((1 + ns.length + 68 * ns.length : Nat) : Int)) ∧ Hid (MkC w' vn vs ns.length ∧ ∀ (x : Nat) (A : Array Value) (f : Nat × Nat), w.heap[x]? = some (.cells A 31 f) → w'.heap[x]? = some (.cells A 31 f)) ∧ Below B w w' := by
  obtain ⟨gn, cn, rfl, hgB, hmi⟩ := ownI_mi h.nd h1
  obtain ⟨G, cs, rfl⟩ : ∃ G cs, vs = .slice (some ⟨G, 0, none⟩) ns.length cs := by
    obtain ⟨G, cs, _, _, e, _⟩ := h.nv (K := 1) hB (by omega) hl
    exact ⟨G, cs, by rw [e, hk]⟩
  have HW : Hid (∀ W, Below w.heap.size w W → Ce W B (.slice (some ⟨gn, 0, none⟩) ns.length cn) (.slice (some ⟨G, 0, none⟩) ns.length cs) ns ks ∧ MI W gn ns.length (nth ns)) := fun W hW => ⟨h.below hW, hmi.below hW⟩
  have HC : Hid (B ≤ w.heap.size ∧ 1 ≤ ns.length ∧ ns.length ≤ 3 ∧ ks.length = ns.length ∧ (∀ k ∈ ks, k.a.length = 32 ∧ k.b.length = 32 ∧ k.c.length = 3) ∧ B ≤ gn) := ⟨hB, h1, h3, hk, hl, hgB⟩
  have HX : Hid (∀ W, Below (w.alloc (.cells #[.string g.nm, .int .i64 g.hd, .int .i64 g.tk, .int .i64 g.ex, .slice (some ⟨gn, 0, none⟩) ns.length cn, .slice (some ⟨G, 0, none⟩) ns.length cs] 31)).heap.size (w.alloc (.cells #[.string g.nm, .int .i64 g.hd, .int .i64 g.tk, .int .i64 g.ex, .slice (some ⟨gn, 0, none⟩) ns.length cn, .slice (some ⟨G, 0, none⟩) ns.length cs] 31)) W → W.heap[w.heap.size]? = some (.cells #[.string g.nm, .int .i64 g.hd, .int .i64 g.tk, .int .i64 g.ex, .slice (some ⟨gn, 0, none⟩) ns.length cn, .slice (some ⟨G, 0, none⟩) ns.length cs] 31 (0, 0)) ∧ Below w.heap.size w W) := fun W hW => ⟨(hW.block _ (by simp)).trans (heap_alloc_new w _), (Rg.bel_new w _).trans (hW.mono (by simp))⟩
  obtain ⟨k2, HK2⟩ : ∃ k2 : Nat, Hid (1 + ns.length = k2) := ⟨_, rfl⟩
  obtain ⟨k3, HK3⟩ : ∃ k3 : Nat, Hid (1 + ns.length + 68 * ns.length = k3) := ⟨_, rfl⟩
  have HM1 : Hid (∀ W, Below w.heap.size w W → Calls Tryz.prog 21 #[.slice (some ⟨gn, 0, none⟩) ns.length cn, .int .i64 1] W fun e w' => e = .returned (.int .i64 (k2 : Int)) ∧ (∃ f', MI w' gn ns.length f' ∧ ∀ j, j < ns.length → f' j = ((1 + j : Nat) : Int)) ∧ W.grownBy w' (some gn)) := fun W hW => by
    have hh := markInts gn ns.length cn 1 (nth ns) W (HW.out W hW).2 (by omega) (by decide)
    rw [HK2.out] at hh
    exact hh
  rw [HK3.out]
  clear h hmi hB h1 hk hl hgB
  unfold crV
  go_enter Tryz.func22, Tryz.ntmps22
  go_upto_region 1 with fail
  generalize w.alloc (.cells #[.string g.nm, .int .i64 g.hd, .int .i64 g.tk, .int .i64 g.ex, .slice (some ⟨gn, 0, none⟩) ns.length cn, .slice (some ⟨G, 0, none⟩) ns.length cs] 31) = wb at HX ⊢
  have hbx := (HX.out wb (Below.refl _ _)).1
  have c0 := (Rg.blk_cell hbx 0 (x := .string g.nm) rfl).1
  have c1 := (Rg.blk_cell hbx 1 (x := .int .i64 g.hd) rfl).1
  have c2 := (Rg.blk_cell hbx 2 (x := .int .i64 g.tk) rfl).1
  have c3 := (Rg.blk_cell hbx 3 (x := .int .i64 g.ex) rfl).1
  have c4 := (Rg.blk_cell hbx 4 (x := .slice (some ⟨gn, 0, none⟩) ns.length cn) rfl).1
  have c5 := (Rg.blk_cell hbx 5 (x := .slice (some ⟨G, 0, none⟩) ns.length cs) rfl).1
  clear hbx
  go_wp2_with fail
  refine (HM1.out _ (HX.out wb (Below.refl _ _)).2).mono ?_
  rintro e w2 ⟨rfl, ⟨f', hf1, hf2⟩, g2⟩
  have HKC : Hid (∀ (x : Nat) (A : Array Value) (f : Nat × Nat), w.heap[x]? = some (.cells A 31 f) → w2.heap[x]? = some (.cells A 31 f)) := fun x A f hx => by
    obtain ⟨A2, q1, _⟩ := (HW.out wb (HX.out wb (Below.refl _ _)).2).2
    have h1 := ((HX.out wb (Below.refl _ _)).2.block x (Array.getElem?_eq_some_iff.1 hx).1).trans hx
    exact (g2.block x (Array.getElem?_eq_some_iff.1 h1).1 (fun e => by cases e; exact kind_ne q1 h1 (by decide) rfl)).trans h1
  have HB2 : Hid (w2.heap[w.heap.size]? = some (.cells #[.string g.nm, .int .i64 g.hd, .int .i64 g.tk, .int .i64 g.ex, .slice (some ⟨gn, 0, none⟩) ns.length cn, .slice (some ⟨G, 0, none⟩) ns.length cs] 31 (0, 0)) ∧ Below B w w2 ∧ B ≤ w2.heap.size) := by
    obtain ⟨A, q1, _⟩ := (HW.out wb (HX.out wb (Below.refl _ _)).2).2
    have hx := (HX.out wb (Below.refl _ _))
    refine ⟨(g2.block _ (Array.getElem?_eq_some_iff.1 hx.1).1 (fun e => by cases e; exact kind_ne q1 hx.1 (by decide) rfl)).trans hx.1, ?_, ?_⟩
    · exact (hx.2.mono HC.out.1).trans ((Below.refl B wb).grown g2 (Nat.le_trans HC.out.1 hx.2.size) (fun k hk => by cases hk; exact HC.out.2.2.2.2.2))
    · exact Nat.le_trans HC.out.1 (Nat.le_trans hx.2.size g2.size)
  have HCE : Hid (Ce w2 B (.slice (some ⟨gn, 0, none⟩) ns.length cn) (.slice (some ⟨G, 0, none⟩) ns.length cs) [] ks ∨ True) := .inr trivial
  have HSG : Hid (∃ ps, OwnK w2 B (.slice (some ⟨G, 0, none⟩) ns.length cs) ps ∧ HV B w2 ps ks) := by
    obtain ⟨hce, A, q1, _⟩ := HW.out wb (HX.out wb (Below.refl _ _)).2
    exact hce.grown g2 q1
  have HMI : Hid (MI w2 gn ns.length f' ∧ ∀ j, j < ns.length → f' j = ((1 + j : Nat) : Int)) := ⟨hf1, hf2⟩
  clear hf1 hf2 g2 c0 c1 c2 c3 c4 c5 HCE
  have d5 := (Rg.blk_cell HB2.out.1 5 (x := .slice (some ⟨G, 0, none⟩) ns.length cs) rfl).1
  have HM2 : Hid (Calls Tryz.prog 48 #[.slice (some ⟨G, 0, none⟩) ns.length cs, .int .i64 (k2 : Int)] w2 fun e w' => e = .returned (.int .i64 (k3 : Int)) ∧ Hid (MkC w' (.slice (some ⟨gn, 0, none⟩) ns.length cn) (.slice (some ⟨G, 0, none⟩) ns.length cs) ns.length ∧ Below B w2 w' ∧ ∀ (x : Nat) (A : Array Value) (f : Nat × Nat), w2.heap[x]? = some (.cells A 31 f) → w'.heap[x]? = some (.cells A 31 f))) := by
    have hce : Ce w2 B (.slice none 0 0) (.slice (some ⟨G, 0, none⟩) ns.length cs) [] ks := ⟨World.ownsRow_nil _ _ _ _, HSG.out⟩
    obtain ⟨G', cs', p, k, e, hn, ho, hg⟩ := hce.nv (K := k2) HB2.out.2.2 (by have := HC.out; omega) HC.out.2.2.2.2.1
    rw [HC.out.2.2.2.1] at e hn ho hg
    cases e
    refine (markKS_any G ns.length cs k2 B p k w2 hn ho hg (by omega) (by rw [← HK2.out]; omega) (by rw [← HK2.out]; omega)).mono ?_
    rintro e w' ⟨rfl, hn'⟩
    refine ⟨by rw [← HK3.out, ← HK2.out], ⟨⟨gn, cn, f', G, cs, p, rfl, rfl, HMI.out.1.kept ?_, HMI.out.2, ?_, fun j hj => ?_⟩, hn'.out.be, fun x A f hx => hn'.out.ot x A _ f (by decide) (by decide) hx⟩⟩
    · obtain ⟨A, q1, _⟩ := HMI.out.1
      exact (hn'.out.ot gn A _ _ (by decide) (by decide) q1).trans q1.symm
    · rw [HK2.out]; exact hn'.out.rk
    · rw [HK2.out]; exact hn'.out.mkd j hj hj
  go_wp2_with fail
  refine HM2.out.mono ?_
  rintro e w3 ⟨rfl, hm3⟩
  have HF : Hid ((MkC w3 (.slice (some ⟨gn, 0, none⟩) ns.length cn) (.slice (some ⟨G, 0, none⟩) ns.length cs) ns.length ∧ ∀ (x : Nat) (A : Array Value) (f : Nat × Nat), w.heap[x]? = some (.cells A 31 f) → w3.heap[x]? = some (.cells A 31 f)) ∧ Below B w w3) := ⟨⟨hm3.out.1, fun x A f hx => hm3.out.2.2 x A f (HKC.out x A f hx)⟩, HB2.out.2.1.trans hm3.out.2.1⟩
  clear hm3
  go_wp2_with fail
  go_ret
  exact ⟨rfl, HF.out.1, HF.out.2⟩
set_option maxRecDepth 100000 in
set_option maxHeartbeats 3200000 in
theorem heldC_any (g : Gg) (vn vs : Value) (N : Nat) (w : World) (h : MkC w vn vs N) (h3 : N ≤ 3) :
    Calls Tryz.prog 23 #[crV g vn vs, .int .i64 1] w fun e w' => e = .returned (.int .i64 ((1 + N + 68 * N : Nat) : Int)) ∧ Below w.heap.size w w' := by
  obtain ⟨gn, cn, f, G, cs, p, rfl, rfl, h1, h2, h4, h5⟩ := h
  have HX : Hid (∀ W, Below (w.alloc (.cells #[.string g.nm, .int .i64 g.hd, .int .i64 g.tk, .int .i64 g.ex, .slice (some ⟨gn, 0, none⟩) N cn, .slice (some ⟨G, 0, none⟩) N cs] 31)).heap.size (w.alloc (.cells #[.string g.nm, .int .i64 g.hd, .int .i64 g.tk, .int .i64 g.ex, .slice (some ⟨gn, 0, none⟩) N cn, .slice (some ⟨G, 0, none⟩) N cs] 31)) W → W.heap[w.heap.size]? = some (.cells #[.string g.nm, .int .i64 g.hd, .int .i64 g.tk, .int .i64 g.ex, .slice (some ⟨gn, 0, none⟩) N cn, .slice (some ⟨G, 0, none⟩) N cs] 31 (0, 0)) ∧ Below w.heap.size w W) := fun W hW => ⟨(hW.block _ (by simp)).trans (heap_alloc_new w _), (Rg.bel_new w _).trans (hW.mono (by simp))⟩
  obtain ⟨k2, HK2⟩ : ∃ k2 : Nat, Hid (1 + N = k2) := ⟨_, rfl⟩
  obtain ⟨k3, HK3⟩ : ∃ k3 : Nat, Hid (1 + N + 68 * N = k3) := ⟨_, rfl⟩
  have HM1 : Hid (∀ W, Below w.heap.size w W → Calls Tryz.prog 49 #[.slice (some ⟨gn, 0, none⟩) N cn, .int .i64 1] W fun e w' => e = .returned (.int .i64 (k2 : Int)) ∧ Below W.heap.size W w') := fun W hW => by
    have hh := heldInts gn N cn 1 f W (h1.below hW) h2 (by omega) (by decide)
    rw [HK2.out] at hh
    exact hh
  have HM2 : Hid (∀ W, Below w.heap.size w W → Calls Tryz.prog 50 #[.slice (some ⟨G, 0, none⟩) N cs, .int .i64 (k2 : Int)] W fun e w' => e = .returned (.int .i64 (k3 : Int)) ∧ Below W.heap.size W w') := fun W hW => by
    have hh := heldKS_any G N cs (1 + N) p W (h4.below hW) (fun j hj => (h5 j hj).below hW) h3 (by omega) (by omega)
    rw [HK3.out, HK2.out] at hh
    exact hh
  rw [HK3.out]
  have hk2 : ¬ (k2 : Int) < 0 := by omega
  have hk3 : ¬ (k3 : Int) < 0 := by omega
  clear h1 h2 h4 h5
  unfold crV
  go_enter Tryz.func23, Tryz.ntmps23
  go_upto_region 1 with fail
  generalize w.alloc (.cells #[.string g.nm, .int .i64 g.hd, .int .i64 g.tk, .int .i64 g.ex, .slice (some ⟨gn, 0, none⟩) N cn, .slice (some ⟨G, 0, none⟩) N cs] 31) = wb at HX ⊢
  have hbx := (HX.out wb (Below.refl _ _)).1
  have c0 := (Rg.blk_cell hbx 0 (x := .string g.nm) rfl).1
  have c1 := (Rg.blk_cell hbx 1 (x := .int .i64 g.hd) rfl).1
  have c2 := (Rg.blk_cell hbx 2 (x := .int .i64 g.tk) rfl).1
  have c3 := (Rg.blk_cell hbx 3 (x := .int .i64 g.ex) rfl).1
  have c4 := (Rg.blk_cell hbx 4 (x := .slice (some ⟨gn, 0, none⟩) N cn) rfl).1
  have c5 := (Rg.blk_cell hbx 5 (x := .slice (some ⟨G, 0, none⟩) N cs) rfl).1
  clear hbx
  go_wp2_with fail
  refine (HM1.out _ (HX.out wb (Below.refl _ _)).2).mono ?_
  rintro e w2 ⟨rfl, b2⟩
  have HB2 : Hid (w2.heap[w.heap.size]? = some (.cells #[.string g.nm, .int .i64 g.hd, .int .i64 g.tk, .int .i64 g.ex, .slice (some ⟨gn, 0, none⟩) N cn, .slice (some ⟨G, 0, none⟩) N cs] 31 (0, 0)) ∧ Below w.heap.size w w2) := HX.out w2 b2
  clear b2 c0 c1 c2 c3 c4 c5
  have d5 := (Rg.blk_cell HB2.out.1 5 (x := .slice (some ⟨G, 0, none⟩) N cs) rfl).1
  go_wp2_with fail
  refine (HM2.out _ HB2.out.2).mono ?_
  rintro e w3 ⟨rfl, b3⟩
  have HF : Hid (Below w.heap.size w w3) := HB2.out.2.trans (b3.mono HB2.out.2.size)
  clear b3
  go_wp2_with fail
  go_ret
  exact ⟨rfl, HF.out⟩
set_option maxRecDepth 100000 in
set_option maxHeartbeats 3200000 in
theorem markC_nil (w : World) : Calls Tryz.prog 22 #[.agg #[.string ⟨#[]⟩, .int .i64 0, .int .i64 0, .int .i64 0, .slice none 0 0, .slice none 0 0], .int .i64 1] w fun e w' => e = .returned (.int .i64 1) ∧ Below w.heap.size w w' := by
  have HX : Hid (∀ W, Below (w.alloc (.cells #[.string ⟨#[]⟩, .int .i64 0, .int .i64 0, .int .i64 0, .slice none 0 0, .slice none 0 0] 31)).heap.size (w.alloc (.cells #[.string ⟨#[]⟩, .int .i64 0, .int .i64 0, .int .i64 0, .slice none 0 0, .slice none 0 0] 31)) W → W.heap[w.heap.size]? = some (.cells #[.string ⟨#[]⟩, .int .i64 0, .int .i64 0, .int .i64 0, .slice none 0 0, .slice none 0 0] 31 (0, 0)) ∧ Below w.heap.size w W) := fun W hW => ⟨(hW.block _ (by simp)).trans (heap_alloc_new w _), (Rg.bel_new w _).trans (hW.mono (by simp))⟩
  go_enter Tryz.func22, Tryz.ntmps22
  go_upto_region 1 with fail
  generalize w.alloc (.cells #[.string ⟨#[]⟩, .int .i64 0, .int .i64 0, .int .i64 0, .slice none 0 0, .slice none 0 0] 31) = wb at HX ⊢
  have hbx := (HX.out wb (Below.refl _ _)).1
  have c0 := (Rg.blk_cell hbx 0 (x := .string ⟨#[]⟩) rfl).1
  have c1 := (Rg.blk_cell hbx 1 (x := .int .i64 0) rfl).1
  have c2 := (Rg.blk_cell hbx 2 (x := .int .i64 0) rfl).1
  have c3 := (Rg.blk_cell hbx 3 (x := .int .i64 0) rfl).1
  have c4 := (Rg.blk_cell hbx 4 (x := .slice none 0 0) rfl).1
  have c5 := (Rg.blk_cell hbx 5 (x := .slice none 0 0) rfl).1
  clear hbx
  have HF : Hid (Below w.heap.size w wb) := (HX.out wb (Below.refl _ _)).2
  clear HX
  go_wp2_with fail
  refine (markInt_nil 1 none 0 wb).mono ?_
  rintro e w2 ⟨rfl, hw2⟩
  subst hw2
  go_wp2_with fail
  refine (markKS_zero none 0 1 _).mono ?_
  rintro e w3 ⟨rfl, hw3⟩
  subst hw3
  go_wp2_with fail
  go_ret
  exact ⟨rfl, HF.out⟩
set_option maxRecDepth 100000 in
set_option maxHeartbeats 3200000 in
theorem heldC_nil (w : World) : Calls Tryz.prog 23 #[.agg #[.string ⟨#[]⟩, .int .i64 0, .int .i64 0, .int .i64 0, .slice none 0 0, .slice none 0 0], .int .i64 1] w fun e w' => e = .returned (.int .i64 1) ∧ Below w.heap.size w w' := by
  have HX : Hid (∀ W, Below (w.alloc (.cells #[.string ⟨#[]⟩, .int .i64 0, .int .i64 0, .int .i64 0, .slice none 0 0, .slice none 0 0] 31)).heap.size (w.alloc (.cells #[.string ⟨#[]⟩, .int .i64 0, .int .i64 0, .int .i64 0, .slice none 0 0, .slice none 0 0] 31)) W → W.heap[w.heap.size]? = some (.cells #[.string ⟨#[]⟩, .int .i64 0, .int .i64 0, .int .i64 0, .slice none 0 0, .slice none 0 0] 31 (0, 0)) ∧ Below w.heap.size w W) := fun W hW => ⟨(hW.block _ (by simp)).trans (heap_alloc_new w _), (Rg.bel_new w _).trans (hW.mono (by simp))⟩
  go_enter Tryz.func23, Tryz.ntmps23
  go_upto_region 1 with fail
  generalize w.alloc (.cells #[.string ⟨#[]⟩, .int .i64 0, .int .i64 0, .int .i64 0, .slice none 0 0, .slice none 0 0] 31) = wb at HX ⊢
  have hbx := (HX.out wb (Below.refl _ _)).1
  have c0 := (Rg.blk_cell hbx 0 (x := .string ⟨#[]⟩) rfl).1
  have c1 := (Rg.blk_cell hbx 1 (x := .int .i64 0) rfl).1
  have c2 := (Rg.blk_cell hbx 2 (x := .int .i64 0) rfl).1
  have c3 := (Rg.blk_cell hbx 3 (x := .int .i64 0) rfl).1
  have c4 := (Rg.blk_cell hbx 4 (x := .slice none 0 0) rfl).1
  have c5 := (Rg.blk_cell hbx 5 (x := .slice none 0 0) rfl).1
  clear hbx
  have HF : Hid (Below w.heap.size w wb) := (HX.out wb (Below.refl _ _)).2
  clear HX
  go_wp2_with fail
  refine (heldInt_nil 1 none 0 wb).mono ?_
  rintro e w2 ⟨rfl, hw2⟩
  subst hw2
  go_wp2_with fail
  refine (heldKS_zero none 0 1 _).mono ?_
  rintro e w3 ⟨rfl, hw3⟩
  subst hw3
  go_wp2_with fail
  go_ret
  exact ⟨rfl, HF.out⟩
end Go.Proofs.YtiflfcpoajijaaaGreatDoor.Kc

/- Both MakeCertificates answer alike; marks on what the program's answers. -/
namespace Go.Proofs.YtiflfcpoajijaaaGreatDoor.Kc
open Go.RowKit Go.Proofs.YtiflfcpoajijaaaGreatDoor.Sl Go.Proofs.YtiflfcpoajijaaaGreatDoor.By Go.Proofs.YtiflfcpoajijaaaGreatDoor.Ap Go.Proofs.YtiflfcpoajijaaaGreatDoor.Tx Go.Proofs.YtiflfcpoajijaaaGreatDoor.Sh Go.Proofs.YtiflfcpoajijaaaGreatDoor.Sg Go.Proofs.YtiflfcpoajijaaaGreatDoor.Ns Go.Proofs.YtiflfcpoajijaaaGreatDoor.Ka Go.Proofs.YtiflfcpoajijaaaGreatDoor.Pa
open Go.Proofs.YtiflfcpoajijaaaGreatDoor.Gr12 (Gg gV grB PTab)
open Go.Proofs.YtiflfcpoajijaaaGreatDoor.Is (RowI OwnI)
open Go.Proofs.YtiflfcpoajijaaaGreatDoor.Hf (inR)
structure Good (n : Int) (g : Gg) (ns : List Int) (ix : Int) (G : Gg) (NS : List Int) (KS : List Ks) (kc : Int) (mk_ : Nat) (OwnP : World → Nat → Value → Value → Prop) (MkP : World → Value → Value → Prop) : Prop where
  ln : KS.length = NS.length ∧ NS.length ≤ 1048576 ∧ ∀ x ∈ KS, x.a.length ≤ 1048576 ∧ x.b.length ≤ 1048576 ∧ x.c.length ≤ 1048576
  sp : ∀ W v, RowI W v ns → Calls Tryz.prog 16 #[.int .i64 n, .agg #[.string g.nm, .int .i64 g.hd, .int .i64 g.tk, .int .i64 g.ex], v, .int .i64 ix] W fun e w' => ∃ a1 k1 a2 k2, e = .returned (.tuple #[.agg #[.string G.nm, .int .i64 G.hd, .int .i64 G.tk, .int .i64 G.ex, .slice a1 NS.length k1, .slice a2 NS.length k2], .int .i64 kc]) ∧ Hid (RowI w' (.slice a1 NS.length k1) NS ∧ Row w' (.slice a2 NS.length k2) KS) ∧ Below W.heap.size W w'
  im : ∀ W v, RowI W v ns → PTab W → KTab W → 0 < W.heap.size → Calls Tryz.prog 7 #[.int .i64 n, .agg #[.string g.nm, .int .i64 g.hd, .int .i64 g.tk, .int .i64 g.ex], v, .int .i64 ix] W fun e w' => ∃ a1 k1 a2 k2, e = .returned (.tuple #[.agg #[.string G.nm, .int .i64 G.hd, .int .i64 G.tk, .int .i64 G.ex, .slice a1 NS.length k1, .slice a2 NS.length k2], .int .i64 kc]) ∧ Hid (OwnP w' W.heap.size (.slice a1 NS.length k1) (.slice a2 NS.length k2)) ∧ Below W.heap.size W w'
  bel : ∀ W W' B vn vs, OwnP W B vn vs → Below W.heap.size W W' → OwnP W' B vn vs
  kep : ∀ W W' B vn vs gx, OwnP W B vn vs → W.grownBy W' (some gx) → gx < B → OwnP W' B vn vs
  row : ∀ W B vn vs, OwnP W B vn vs → RowI W vn NS ∧ Row W vs KS
  mar : ∀ W B a1 k1 a2 k2, OwnP W B (.slice a1 NS.length k1) (.slice a2 NS.length k2) → B ≤ W.heap.size → Calls Tryz.prog 22 #[.agg #[.string G.nm, .int .i64 G.hd, .int .i64 G.tk, .int .i64 G.ex, .slice a1 NS.length k1, .slice a2 NS.length k2], .int .i64 1] W fun e w' => e = .returned (.int .i64 (mk_ : Int)) ∧ Hid (MkP w' (.slice a1 NS.length k1) (.slice a2 NS.length k2) ∧ ∀ (x : Nat) (A : Array Value) (f : Nat × Nat), W.heap[x]? = some (.cells A 31 f) → w'.heap[x]? = some (.cells A 31 f)) ∧ Below B W w'
  hel : ∀ W a1 k1 a2 k2, MkP W (.slice a1 NS.length k1) (.slice a2 NS.length k2) → Calls Tryz.prog 23 #[.agg #[.string G.nm, .int .i64 G.hd, .int .i64 G.tk, .int .i64 G.ex, .slice a1 NS.length k1, .slice a2 NS.length k2], .int .i64 1] W fun e w' => e = .returned (.int .i64 (mk_ : Int)) ∧ Below W.heap.size W w'
  mbe : ∀ W W' vn vs, MkP W vn vs → Below W.heap.size W W' → MkP W' vn vs
theorem good_bad (n : Int) (g : Gg) (ns : List Int) (ix : Int) (zg : g.nm.size ≤ maxLen) (hl : ns.length ≤ 1048576) (hm : ¬ mfC n g ns ix = 0) :
    Good n g ns ix ⟨⟨#[]⟩, 0, 0, 0⟩ [] [] (mfC n g ns ix) 1 (fun _ _ vn vs => vn = .slice none 0 0 ∧ vs = .slice none 0 0) (fun _ vn vs => vn = .slice none 0 0 ∧ vs = .slice none 0 0) where
  ln := ⟨rfl, by simp, fun x hx => by cases hx⟩
  sp := fun W v h => (specMakeC_bad n g v ns ix W zg h hl hm).mono fun e w' ⟨h1, h2⟩ => ⟨none, 0, none, 0, h1, ⟨⟨none, 0, rfl, .inl rfl, fun x hx => by cases hx⟩, ⟨none, 0, rfl, .inl rfl⟩⟩, h2⟩
  im := fun W v h _ _ _ => (implMakeC_bad n g v ns ix W zg h hl hm).mono fun e w' ⟨h1, h2⟩ => ⟨none, 0, none, 0, h1, ⟨rfl, rfl⟩, h2⟩
  bel := fun _ _ _ _ _ h _ => h
  kep := fun _ _ _ _ _ _ h _ _ => h
  row := fun W _ vn vs h => ⟨⟨none, 0, h.1, .inl rfl, fun x hx => by cases hx⟩, ⟨none, 0, h.2, .inl rfl⟩⟩
  mar := fun W B a1 k1 a2 k2 h hB => by
    obtain ⟨e1, e2⟩ := h
    cases e1; cases e2
    exact (markC_nil W).mono fun e w' ⟨h1, h2⟩ => ⟨h1, ⟨⟨rfl, rfl⟩, fun x A f hx => (h2.block x (Array.getElem?_eq_some_iff.1 hx).1).trans hx⟩, h2.mono hB⟩
  hel := fun W a1 k1 a2 k2 h => by
    obtain ⟨e1, e2⟩ := h
    cases e1; cases e2
    exact heldC_nil W
  mbe := fun _ _ _ _ h _ => h
theorem lens {n : Int} {g : Gg} {ns : List Int} {ix : Int} (hm : mfC n g ns ix = 0) : ∀ k ∈ ns.map (kOf ix g), k.a.length = 32 ∧ k.b.length = 32 ∧ k.c.length = 3 := fun k hk => by
  obtain ⟨mg, mi, mc, _, _⟩ := mf_zero hm
  obtain ⟨x, hx, rfl⟩ := List.mem_map.1 hk
  obtain ⟨e1, e2⟩ := nat_of (cf_node mc hx)
  obtain ⟨e3, e4⟩ := nat_of mi
  have ek := kOf7 (x := x.toNat) (k := ix.toNat) mg (by omega) (by omega)
  rw [← e1, ← e3] at ek
  rw [ek]
  exact ⟨onesTo_length _ _ _ _, restTo_length _ _ _ _, pathN_length _ _ _⟩
theorem good_ok (n : Int) (g : Gg) (ns : List Int) (ix : Int) (zg : g.nm.size ≤ maxLen) (hm : mfC n g ns ix = 0) :
    Good n g ns ix g ns (ns.map (kOf ix g)) 0 (1 + ns.length + 68 * ns.length) (fun W B vn vs => Ce W B vn vs ns (ns.map (kOf ix g))) (fun W vn vs => MkC W vn vs ns.length) where
  ln := ⟨by simp, by have := (mf_zero hm).2.2.2.1; omega, fun x hx => by have := lens hm x hx; omega⟩
  sp := fun W v h => (specMakeC_ok n g v ns ix W zg h hm).mono fun e w' ⟨vn, vs, h1, h2, h3⟩ => by
    obtain ⟨r1, r2⟩ := h2.out.rows (fun x hx => cf_node (mf_zero hm).2.2.1 hx)
    obtain ⟨a1, k1, rfl⟩ := ownI_slice h2.out.nd
    obtain ⟨ps, o1, o2⟩ := h2.out.sg
    obtain ⟨a2, k2, e2⟩ := o1.slice
    rw [o2.len, List.length_map] at e2
    subst e2
    exact ⟨a1, k1, a2, k2, h1, ⟨r1, r2⟩, h3⟩
  im := fun W v h hP hK hp => (implMakeC_ok n g v ns ix W zg h hm hP hK hp).mono fun e w' ⟨vn, vs, h1, h2, h3⟩ => by
    obtain ⟨a1, k1, rfl⟩ := ownI_slice h2.out.nd
    obtain ⟨ps, o1, o2⟩ := h2.out.sg
    obtain ⟨a2, k2, e2⟩ := o1.slice
    rw [o2.len, List.length_map] at e2
    subst e2
    exact ⟨a1, k1, a2, k2, h1, h2.out.mono (by omega), h3⟩
  bel := fun _ _ _ _ _ h hb => h.below hb
  kep := fun W W' B vn vs gx h hg hx => h.kept (fun k hk hk2 => hg.block k hk2 (fun e => by cases e; omega))
  row := fun W B vn vs h => h.rows (fun x hx => cf_node (mf_zero hm).2.2.1 hx)
  mar := fun W B a1 k1 a2 k2 h hB => markC_any g _ _ ns (ns.map (kOf ix g)) B W h hB (mf_zero hm).2.2.2.2 (mf_zero hm).2.2.2.1 (by simp) (lens hm)
  hel := fun W a1 k1 a2 k2 h => heldC_any g _ _ ns.length W h (mf_zero hm).2.2.2.1
  mbe := fun _ _ _ _ h hb => h.below hb
theorem good_any (n : Int) (g : Gg) (ns : List Int) (ix : Int) (zg : g.nm.size ≤ maxLen) (hl : ns.length ≤ 1048576) : ∃ G NS KS kc mk_ OwnP MkP, Good n g ns ix G NS KS kc mk_ OwnP MkP := by
  by_cases hm : mfC n g ns ix = 0
  · exact ⟨_, _, _, _, _, _, _, good_ok n g ns ix zg hm⟩
  · exact ⟨_, _, _, _, _, _, _, good_bad n g ns ix zg hl hm⟩
end Go.Proofs.YtiflfcpoajijaaaGreatDoor.Kc
