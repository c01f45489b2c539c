/- Texts put together: Pt, Pt2, Ps. -/
import Derived.Test.YtakfniknkejgpaaDoorMt10
import Derived.Deep.RegionHeldLaw
/- The bytes of tables: the program. -/
namespace Go.Proofs.YtakfniknkejgpaaDoor.Pt
open Go.RowKit Go.Proofs.YtakfniknkejgpaaDoor.Sl Go.Proofs.YtakfniknkejgpaaDoor.By Go.Proofs.YtakfniknkejgpaaDoor.Ap Go.Proofs.YtakfniknkejgpaaDoor.Tx Go.Proofs.YtakfniknkejgpaaDoor.Tb Go.Proofs.YtakfniknkejgpaaDoor.Tw Go.Proofs.YtakfniknkejgpaaDoor.Rq Go.Proofs.YtakfniknkejgpaaDoor.Tp Go.Proofs.YtakfniknkejgpaaDoor.Pu

def wtBs (x : Wt) : List Int := nums x.c 1 1 ++ nums x.l 2 2
def wsBs (ws : List Wt) : List Int := ws.flatMap wtBs
def lkBs (x : Lk) : List Int := nums (x.n.size : Int) 1 1 ++ (bys x.n ++ (nums x.t 3 3 ++ (nums (x.h + 1) 2 2 ++ (nums x.e 4 4 ++ (nums (x.ws.length : Int) 1 1 ++ wsBs x.ws)))))
def snBs (x : Sn) : List Int := nums x.c 1 1 ++ (nums x.s 2 2 ++ (nums x.k 1 1 ++ (nums x.t 3 3 ++ (nums (x.h + 1) 2 2 ++ nums x.e 4 4))))
def lsBs (ls : List Lk) : List Int := ls.flatMap lkBs
def ssBs (ss : List Sn) : List Int := ss.flatMap snBs
def tabBs (tm nx : Int) (ls : List Lk) (ss : List Sn) : List Int := nums tm 4 4 ++ (nums nx 3 3 ++ (nums (ls.length : Int) 1 1 ++ (lsBs ls ++ (nums (ss.length : Int) 1 1 ++ ssBs ss))))
theorem take_bs {α : Type} (f : α → List Int) {xs : List α} {k : Nat} {x : α} (h : xs[k]? = some x) : (xs.take (k + 1)).flatMap f = (xs.take k).flatMap f ++ f x := by
 rw [List.take_add_one, h, List.flatMap_append]
 simp
theorem wsBs_len (ws : List Wt) : (wsBs ws).length = 3 * ws.length := by
 unfold wsBs
 induction ws with
 | nil => rfl
 | cons a l ih => rw [List.flatMap_cons, List.length_append, ih]; unfold wtBs; rw [List.length_append, nums_length, nums_length, List.length_cons]; omega
theorem lkBs_len (x : Lk) : (lkBs x).length = 11 + x.n.size + 3 * x.ws.length := by unfold lkBs; simp only [List.length_append, nums_length, bys_length, wsBs_len]; omega
theorem snBs_len (x : Sn) : (snBs x).length = 13 := by unfold snBs; simp only [List.length_append, nums_length]
theorem lsBs_le : ∀ (ls : List Lk), (∀ x ∈ ls, x.n.size ≤ 12 ∧ x.ws.length ≤ 4) → (lsBs ls).length ≤ 35 * ls.length
 | [], _ => Nat.le_refl _
 | x :: l, h => by
   have := lsBs_le l fun y hy => h y (List.mem_cons_of_mem _ hy)
   have hx := h x (List.mem_cons_self ..)
   unfold lsBs at this ⊢
   rw [List.flatMap_cons, List.length_append, lkBs_len, List.length_cons]
   omega
theorem ssBs_len : ∀ (ss : List Sn), (ssBs ss).length = 13 * ss.length
 | [] => rfl
 | x :: l => by
   have := ssBs_len l
   unfold ssBs at this ⊢
   rw [List.flatMap_cons, List.length_append, snBs_len, List.length_cons]
   omega
theorem range_append {xs ys : List Int} (h : ∀ z ∈ xs, 0 ≤ z ∧ z ≤ 255) (g : ∀ z ∈ ys, 0 ≤ z ∧ z ≤ 255) : ∀ z ∈ xs ++ ys, 0 ≤ z ∧ z ≤ 255 := fun z hz => by
 rcases List.mem_append.1 hz with hz | hz
 ·exact h z hz
 ·exact g z hz
theorem flat_range {α : Type} {f : α → List Int} (h : ∀ x, ∀ z ∈ f x, 0 ≤ z ∧ z ≤ 255) (xs : List α) : ∀ z ∈ xs.flatMap f, 0 ≤ z ∧ z ≤ 255 := fun z hz => by
 obtain ⟨x, _, hx⟩ := List.mem_flatMap.1 hz
 exact h x z hx
theorem wsBs_range (ws : List Wt) : ∀ z ∈ wsBs ws, 0 ≤ z ∧ z ≤ 255 := flat_range (fun _ => range_append (nums_range _ _ _) (nums_range _ _ _)) ws
theorem lkBs_range (x : Lk) : ∀ z ∈ lkBs x, 0 ≤ z ∧ z ≤ 255 := range_append (nums_range _ _ _) (range_append (bys_range _) (range_append (nums_range _ _ _) (range_append (nums_range _ _ _) (range_append (nums_range _ _ _) (range_append (nums_range _ _ _) (wsBs_range _))))))
theorem snBs_range (x : Sn) : ∀ z ∈ snBs x, 0 ≤ z ∧ z ≤ 255 := range_append (nums_range _ _ _) (range_append (nums_range _ _ _) (range_append (nums_range _ _ _) (range_append (nums_range _ _ _) (range_append (nums_range _ _ _) (nums_range _ _ _)))))
theorem tabBs_range (tm nx : Int) (ls : List Lk) (ss : List Sn) : ∀ z ∈ tabBs tm nx ls ss, 0 ≤ z ∧ z ≤ 255 := range_append (nums_range _ _ _) (range_append (nums_range _ _ _) (range_append (nums_range _ _ _) (range_append (flat_range lkBs_range ls) (range_append (nums_range _ _ _) (flat_range snBs_range ss)))))

def EWB (B : Nat) (w : World) (b o : Nat) (x : Wt) : Prop := b < B ∧ EW w b o x
def ESB (B : Nat) (w : World) (b o : Nat) (x : Sn) : Prop := b < B ∧ ES w b o x
def ELB (B : Nat) (w : World) (b o : Nat) (x : Lk) : Prop := b < B ∧ ∃ u, w.cell? ⟨b, o, none⟩ = some (.string x.n) ∧ w.cell? ⟨b, o + 1, none⟩ = some (.int .i64 x.t) ∧ w.cell? ⟨b, o + 2, none⟩ = some (.int .i64 x.h) ∧ w.cell? ⟨b, o + 3, none⟩ = some (.int .i64 x.e) ∧ w.cell? ⟨b, o + 4, none⟩ = some u ∧ RowG 2 (EWB B) w u x.ws
theorem RowG.map {α : Type} {c : Nat} {E E' : World → Nat → Nat → α → Prop} {w w' : World} {v : Value} {xs : List α} (h : RowG c E w v xs) (hs : w.heap.size ≤ w'.heap.size) (hE : ∀ b o x, b < w.heap.size → E w b o x → E' w' b o x) : RowG c E' w' v xs := by
 obtain ⟨a, cap, rfl, h⟩ := h
 refine ⟨a, cap, rfl, ?_⟩
 rcases h with h | ⟨b, off, rfl, hc, hlt, h⟩
 ·exact .inl h
 ·exact .inr ⟨b, off, rfl, hc, Nat.lt_of_lt_of_le hlt hs, fun i x hi => hE _ _ _ hlt (h i x hi)⟩
def RowWB (B : Nat) (w : World) (v : Value) (xs : List Wt) : Prop := RowG 2 (EWB B) w v xs
def RowLB (B : Nat) (w : World) (v : Value) (xs : List Lk) : Prop := RowG 5 (ELB B) w v xs
def RowSB (B : Nat) (w : World) (v : Value) (xs : List Sn) : Prop := RowG 6 (ESB B) w v xs
theorem RowW.low {w : World} {v : Value} {xs : List Wt} (h : RowW w v xs) : RowWB w.heap.size w v xs := RowG.map h (Nat.le_refl _) fun _ _ _ hb he => ⟨hb, he⟩
theorem RowS.low {w : World} {v : Value} {xs : List Sn} (h : RowS w v xs) : RowSB w.heap.size w v xs := RowG.map h (Nat.le_refl _) fun _ _ _ hb he => ⟨hb, he⟩
theorem RowL.low {w : World} {v : Value} {xs : List Lk} (h : RowL w v xs) : RowLB w.heap.size w v xs := RowG.map h (Nat.le_refl _) fun _ _ _ hb ⟨u, h0, h1, h2, h3, h4, h5⟩ => ⟨hb, u, h0, h1, h2, h3, h4, RowW.low h5⟩
theorem ewb {B : Nat} {w w' : World} (hb : Below B w w') {b o : Nat} {x : Wt} (h : EWB B w b o x) : EWB B w' b o x := ⟨h.1, (hb.cell (p := ⟨b, _, none⟩) h.1).trans h.2.1, (hb.cell (p := ⟨b, _, none⟩) h.1).trans h.2.2⟩
theorem RowWB.below {B : Nat} {w w' : World} {v : Value} {xs : List Wt} (h : RowWB B w v xs) (hb : Below B w w') : RowWB B w' v xs := RowG.map h hb.size fun _ _ _ _ h => ewb hb h
theorem RowSB.below {B : Nat} {w w' : World} {v : Value} {xs : List Sn} (h : RowSB B w v xs) (hb : Below B w w') : RowSB B w' v xs := RowG.map h hb.size fun b _ _ _ ⟨hl, h0, h1, h2, h3, h4, h5⟩ => ⟨hl, (hb.cell (p := ⟨b, _, none⟩) hl).trans h0, (hb.cell (p := ⟨b, _, none⟩) hl).trans h1, (hb.cell (p := ⟨b, _, none⟩) hl).trans h2, (hb.cell (p := ⟨b, _, none⟩) hl).trans h3, (hb.cell (p := ⟨b, _, none⟩) hl).trans h4, (hb.cell (p := ⟨b, _, none⟩) hl).trans h5⟩
theorem RowLB.below {B : Nat} {w w' : World} {v : Value} {xs : List Lk} (h : RowLB B w v xs) (hb : Below B w w') : RowLB B w' v xs := RowG.map h hb.size fun b _ _ _ ⟨hl, u, h0, h1, h2, h3, h4, h5⟩ => ⟨hl, u, (hb.cell (p := ⟨b, _, none⟩) hl).trans h0, (hb.cell (p := ⟨b, _, none⟩) hl).trans h1, (hb.cell (p := ⟨b, _, none⟩) hl).trans h2, (hb.cell (p := ⟨b, _, none⟩) hl).trans h3, (hb.cell (p := ⟨b, _, none⟩) hl).trans h4, RowWB.below h5 hb⟩
theorem own_away {e : TypeId} {w : World} {B : Nat} {v : Value} {zs : List Int} (h : OwnB e w B v zs) : some w.heap.size ≠ v.ownBlock := by
 intro hn
 unfold OwnB at h
 have := (h.lt _ hn.symm).2
 omega
theorem box_kept {w w1 : World} {v v1 : Value} {cs : Array Value} {t : TypeId} (h : Kp (w.alloc (.cells cs t)) w1 v v1) (hn : some w.heap.size ≠ v.ownBlock) : w1.heap[w.heap.size]? = some (.cells cs t (0, 0)) :=
 (h.block w.heap.size (by simp) hn).trans (heap_alloc_new w _)
set_option maxRecDepth 100000 in
set_option maxHeartbeats 1600000 in
theorem putSeen_any (v : Value) (zs : List Int) (x : Sn) (B : Nat) (w : World) (hown : OwnB 5 w B v zs) (hB : B ≤ w.heap.size) (hlen : zs.length ≤ 100000) (hh : -1 ≤ x.h ∧ x.h ≤ 255) :
 Calls Tryd.prog 28 #[v, snV x] w fun e w' => ∃ v', e = .returned v' ∧ OwnB 5 w' B v' (zs ++ snBs x) ∧ Kp w w' v v' := by
 have ha := own_away hown
 have HK : Hid (∀ w1 v1, Kp (w.alloc (.cells #[.int .i64 x.c, .int .i64 x.s, .int .i64 x.k, .int .i64 x.t, .int .i64 x.h, .int .i64 x.e] 57)) w1 v v1 → (w1.cell? ⟨w.heap.size, 0, none⟩ = some (.int .i64 x.c) ∧ w1.cell? ⟨w.heap.size, 1, none⟩ = some (.int .i64 x.s) ∧ w1.cell? ⟨w.heap.size, 2, none⟩ = some (.int .i64 x.k) ∧ w1.cell? ⟨w.heap.size, 3, none⟩ = some (.int .i64 x.t) ∧ w1.cell? ⟨w.heap.size, 4, none⟩ = some (.int .i64 x.h) ∧ w1.cell? ⟨w.heap.size, 5, none⟩ = some (.int .i64 x.e))) := fun w1 v1 h => by
  have h1 := box_kept h ha
  exact ⟨(blk_cell h1 0 rfl).1, (blk_cell h1 1 rfl).1, (blk_cell h1 2 rfl).1, (blk_cell h1 3 rfl).1, (blk_cell h1 4 rfl).1, (blk_cell h1 5 rfl).1⟩
 have K0 : Hid (Kp w (w.alloc (.cells #[.int .i64 x.c, .int .i64 x.s, .int .i64 x.k, .int .i64 x.t, .int .i64 x.h, .int .i64 x.e] 57)) v v) := (Kp.refl _ _).alloc _
 have O0 : Hid (OwnB 5 (w.alloc (.cells #[.int .i64 x.c, .int .i64 x.s, .int .i64 x.k, .int .i64 x.t, .int .i64 x.h, .int .i64 x.e] 57)) B v zs) := own_alloc hown _
 have KK0 : Hid (Kp (w.alloc (.cells #[.int .i64 x.c, .int .i64 x.s, .int .i64 x.k, .int .i64 x.t, .int .i64 x.h, .int .i64 x.e] 57)) (w.alloc (.cells #[.int .i64 x.c, .int .i64 x.s, .int .i64 x.k, .int .i64 x.t, .int .i64 x.h, .int .i64 x.e] 57)) v v) := Kp.refl _ _
 have HBB : Hid (B ≤ (w.alloc (.cells #[.int .i64 x.c, .int .i64 x.s, .int .i64 x.k, .int .i64 x.t, .int .i64 x.h, .int .i64 x.e] 57)).heap.size) := Nat.le_trans hB (by simp)
 clear ha hown
 unfold snV
 go_enter Tryd.func28, Tryd.ntmps28
 go_upto_region 1 with fail
 generalize w.alloc (.cells #[.int .i64 x.c, .int .i64 x.s, .int .i64 x.k, .int .i64 x.t, .int .i64 x.h, .int .i64 x.e] 57) = wb at HK K0 O0 KK0 HBB ⊢
 obtain ⟨q0, q1, q2, q3, q4, q5⟩ := HK.out _ _ KK0.out
 go_wp2_with fail
 refine (putNumber_any _ _ _ 1 B _ O0.out (Nat.le_trans HBB.out KK0.out.size) (by decide) (by first | omega | (simp only [List.length_append, nums_length]; omega))).mono ?_
 rintro e w1 ⟨v1, rfl, o1, k1⟩
 have KK1 : Hid (Kp wb w1 v v1) := KK0.out.trans k1
 have O1 : Hid (OwnB 5 w1 B v1 _) := o1
 clear q0 q1 q2 q3 q4 q5 o1 k1
 obtain ⟨q0, q1, q2, q3, q4, q5⟩ := HK.out _ _ KK1.out
 go_wp2_with fail
 refine (putNumber_any _ _ _ 2 B _ O1.out (Nat.le_trans HBB.out KK1.out.size) (by decide) (by first | omega | (simp only [List.length_append, nums_length]; omega))).mono ?_
 rintro e w2 ⟨v2, rfl, o2, k2⟩
 have KK2 : Hid (Kp wb w2 v v2) := KK1.out.trans k2
 have O2 : Hid (OwnB 5 w2 B v2 _) := o2
 clear q0 q1 q2 q3 q4 q5 o2 k2
 obtain ⟨q0, q1, q2, q3, q4, q5⟩ := HK.out _ _ KK2.out
 go_wp2_with fail
 refine (putNumber_any _ _ _ 1 B _ O2.out (Nat.le_trans HBB.out KK2.out.size) (by decide) (by first | omega | (simp only [List.length_append, nums_length]; omega))).mono ?_
 rintro e w3 ⟨v3, rfl, o3, k3⟩
 have KK3 : Hid (Kp wb w3 v v3) := KK2.out.trans k3
 have O3 : Hid (OwnB 5 w3 B v3 _) := o3
 clear q0 q1 q2 q3 q4 q5 o3 k3
 obtain ⟨q0, q1, q2, q3, q4, q5⟩ := HK.out _ _ KK3.out
 go_wp2_with fail
 refine (putNumber_any _ _ _ 3 B _ O3.out (Nat.le_trans HBB.out KK3.out.size) (by decide) (by first | omega | (simp only [List.length_append, nums_length]; omega))).mono ?_
 rintro e w4 ⟨v4, rfl, o4, k4⟩
 have KK4 : Hid (Kp wb w4 v v4) := KK3.out.trans k4
 have O4 : Hid (OwnB 5 w4 B v4 _) := o4
 clear q0 q1 q2 q3 q4 q5 o4 k4
 obtain ⟨q0, q1, q2, q3, q4, q5⟩ := HK.out _ _ KK4.out
 go_wp2_with fail
 refine (putNumber_any _ _ _ 2 B _ O4.out (Nat.le_trans HBB.out KK4.out.size) (by decide) (by first | omega | (simp only [List.length_append, nums_length]; omega))).mono ?_
 rintro e w5 ⟨v5, rfl, o5, k5⟩
 have KK5 : Hid (Kp wb w5 v v5) := KK4.out.trans k5
 have O5 : Hid (OwnB 5 w5 B v5 _) := o5
 clear q0 q1 q2 q3 q4 q5 o5 k5
 obtain ⟨q0, q1, q2, q3, q4, q5⟩ := HK.out _ _ KK5.out
 go_wp2_with fail
 refine (putNumber_any _ _ _ 4 B _ O5.out (Nat.le_trans HBB.out KK5.out.size) (by decide) (by first | omega | (simp only [List.length_append, nums_length]; omega))).mono ?_
 rintro e w6 ⟨v6, rfl, o6, k6⟩
 have KK6 : Hid (Kp wb w6 v v6) := KK5.out.trans k6
 have O6 : Hid (OwnB 5 w6 B v6 _) := o6
 clear q0 q1 q2 q3 q4 q5 o6 k6
 go_wp2_with fail
 go_ret
 refine ⟨_, rfl, ?_, K0.out.trans KK6.out⟩
 have o6 := O6.out
 unfold snBs
 simpa [List.append_assoc] using o6
set_option maxRecDepth 100000 in
set_option maxHeartbeats 1600000 in
theorem putLock_any (v : Value) (zs : List Int) (x : Lk) (u : Value) (B : Nat) (w : World) (hown : OwnB 5 w B v zs) (hB : B ≤ w.heap.size) (hlen : zs.length ≤ 100000) (hh : -1 ≤ x.h ∧ x.h ≤ 255) (hn : x.n.size ≤ 1000) (hws : x.ws.length ≤ 1000) (hu : RowWB B w u x.ws) :
 Calls Tryd.prog 27 #[v, lkV x u] w fun e w' => ∃ v', e = .returned v' ∧ OwnB 5 w' B v' (zs ++ lkBs x) ∧ Kp w w' v v' := by
 obtain ⟨a, cap, rfl⟩ := RowG.slice hu
 have ha := own_away hown
 have O0 : Hid (OwnB 5 (w.alloc (.cells #[.string x.n, .int .i64 x.t, .int .i64 x.h, .int .i64 x.e, .slice a x.ws.length cap] 52)) B v zs) := own_alloc hown _
 have HBB : Hid (B ≤ (w.alloc (.cells #[.string x.n, .int .i64 x.t, .int .i64 x.h, .int .i64 x.e, .slice a x.ws.length cap] 52)).heap.size) := Nat.le_trans hB (by simp)
 have HU0 : Hid (RowWB B (w.alloc (.cells #[.string x.n, .int .i64 x.t, .int .i64 x.h, .int .i64 x.e, .slice a x.ws.length cap] 52)) (.slice a x.ws.length cap) x.ws) := hu.below ((bel_new w _).mono hB)
 have HK : Hid (∀ w1 v1, Kp (w.alloc (.cells #[.string x.n, .int .i64 x.t, .int .i64 x.h, .int .i64 x.e, .slice a x.ws.length cap] 52)) w1 v v1 → (w1.cell? ⟨w.heap.size, 0, none⟩ = some (.string x.n) ∧ w1.cell? ⟨w.heap.size, 1, none⟩ = some (.int .i64 x.t) ∧ w1.cell? ⟨w.heap.size, 2, none⟩ = some (.int .i64 x.h) ∧ w1.cell? ⟨w.heap.size, 3, none⟩ = some (.int .i64 x.e) ∧ w1.cell? ⟨w.heap.size, 4, none⟩ = some (.slice a x.ws.length cap)) ∧ RowWB B w1 (.slice a x.ws.length cap) x.ws) := fun w1 v1 h => by
  have h1 := box_kept h ha
  exact ⟨⟨(blk_cell h1 0 rfl).1, (blk_cell h1 1 rfl).1, (blk_cell h1 2 rfl).1, (blk_cell h1 3 rfl).1, (blk_cell h1 4 rfl).1⟩, HU0.out.below (h.below O0.out HBB.out)⟩
 have K0 : Hid (Kp w (w.alloc (.cells #[.string x.n, .int .i64 x.t, .int .i64 x.h, .int .i64 x.e, .slice a x.ws.length cap] 52)) v v) := (Kp.refl _ _).alloc _
 have KK0 : Hid (Kp (w.alloc (.cells #[.string x.n, .int .i64 x.t, .int .i64 x.h, .int .i64 x.e, .slice a x.ws.length cap] 52)) (w.alloc (.cells #[.string x.n, .int .i64 x.t, .int .i64 x.h, .int .i64 x.e, .slice a x.ws.length cap] 52)) v v) := Kp.refl _ _
 clear ha hown hu HU0
 unfold lkV
 go_enter Tryd.func27, Tryd.ntmps27
 go_upto_region 1 with fail
 generalize w.alloc (.cells #[.string x.n, .int .i64 x.t, .int .i64 x.h, .int .i64 x.e, .slice a x.ws.length cap] 52) = wb at HK K0 O0 KK0 HBB ⊢
 obtain ⟨⟨q0, q1, q2, q3, q4⟩, _⟩ := HK.out _ _ KK0.out
 go_wp2_with fail
 refine (putText_any _ _ x.n 1 B _ O0.out (Nat.le_trans HBB.out KK0.out.size) (by decide) (by omega) (by omega)).mono ?_
 rintro e w1 ⟨v1, rfl, o1, k1⟩
 have KK1 : Hid (Kp wb w1 v v1) := KK0.out.trans k1
 have O1 : Hid (OwnB 5 w1 B v1 _) := o1
 clear q0 q1 q2 q3 q4 o1 k1
 obtain ⟨⟨q0, q1, q2, q3, q4⟩, _⟩ := HK.out _ _ KK1.out
 go_wp2_with fail
 refine (putNumber_any _ _ _ 3 B _ O1.out (Nat.le_trans HBB.out KK1.out.size) (by decide) (by simp only [List.length_append, nums_length, bys_length]; omega)).mono ?_
 rintro e w2 ⟨v2, rfl, o2, k2⟩
 have KK2 : Hid (Kp wb w2 v v2) := KK1.out.trans k2
 have O2 : Hid (OwnB 5 w2 B v2 _) := o2
 clear q0 q1 q2 q3 q4 o2 k2
 obtain ⟨⟨q0, q1, q2, q3, q4⟩, _⟩ := HK.out _ _ KK2.out
 go_wp2_with fail
 refine (putNumber_any _ _ _ 2 B _ O2.out (Nat.le_trans HBB.out KK2.out.size) (by decide) (by simp only [List.length_append, nums_length, bys_length]; omega)).mono ?_
 rintro e w3 ⟨v3, rfl, o3, k3⟩
 have KK3 : Hid (Kp wb w3 v v3) := KK2.out.trans k3
 have O3 : Hid (OwnB 5 w3 B v3 _) := o3
 clear q0 q1 q2 q3 q4 o3 k3
 obtain ⟨⟨q0, q1, q2, q3, q4⟩, _⟩ := HK.out _ _ KK3.out
 go_wp2_with fail
 refine (putNumber_any _ _ _ 4 B _ O3.out (Nat.le_trans HBB.out KK3.out.size) (by decide) (by simp only [List.length_append, nums_length, bys_length]; omega)).mono ?_
 rintro e w4 ⟨v4, rfl, o4, k4⟩
 have KK4 : Hid (Kp wb w4 v v4) := KK3.out.trans k4
 have O4 : Hid (OwnB 5 w4 B v4 _) := o4
 clear q0 q1 q2 q3 q4 o4 k4
 obtain ⟨⟨q0, q1, q2, q3, q4⟩, _⟩ := HK.out _ _ KK4.out
 go_wp2_with fail
 refine (putNumber_any _ _ _ 1 B _ O4.out (Nat.le_trans HBB.out KK4.out.size) (by decide) (by simp only [List.length_append, nums_length, bys_length]; omega)).mono ?_
 rintro e w5 ⟨v5, rfl, o5, k5⟩
 have KK5 : Hid (Kp wb w5 v v5) := KK4.out.trans k5
 have O5 : Hid (OwnB 5 w5 B v5 _) := o5
 clear q0 q1 q2 q3 q4 o5 k5
 obtain ⟨⟨q0, q1, q2, q3, q4⟩, _⟩ := HK.out _ _ KK5.out
 obtain ⟨ys, HYS⟩ : ∃ ys, Hid (zs ++ nums (x.n.size : Int) 1 1 ++ bys x.n ++ nums x.t 3 3 ++ nums (x.h + 1) 2 2 ++ nums x.e 4 4 ++ nums (x.ws.length : Int) 1 1 = ys) := ⟨_, rfl⟩
 have HYL : Hid (ys.length ≤ 102000) := by show _ ≤ _; rw [← HYS.out]; simp only [List.length_append, nums_length, bys_length]; omega
 have O5' : Hid (OwnB 5 w5 B v5 ys) := by show OwnB _ _ _ _ _; rw [← HYS.out]; exact O5.out
 clear O0 O1 O2 O3 O4 O5 KK0 KK1 KK2 KK3 KK4
 go_wp2_with fail
 clear q0 q1 q2 q3 q4
 go_loopw [0, 32] (fun b i wr => ∃ k : Nat, k ≤ x.ws.length ∧ i = .int .i64 k ∧ Hid (OwnB 5 wr B b (ys ++ wsBs (x.ws.take k)) ∧ Kp wb wr v b)) (fun _ i _ => x.ws.length - (intOf i).toNat)
 case atStart => exact ⟨0, by omega, rfl, ⟨by simpa [wsBs] using O5'.out, KK5.out⟩⟩
 case round =>
  clear O5' KK5
  obtain ⟨k, hk, rfl, HO⟩ := hrel
  by_cases hlt : k < x.ws.length
  ·obtain ⟨z, hz⟩ := Tw.get_at hlt
   obtain ⟨b, off, rfl, hbl, hbB, c0, c1⟩ := RowG.at (HK.out _ _ HO.out.2).2 rfl hz
   have HT : Hid (wsBs (x.ws.take (k + 1)) = wsBs (x.ws.take k) ++ wtBs z) := take_bs wtBs hz
   have HLN : Hid ((ys ++ wsBs (x.ws.take k)).length ≤ 106000) := by show _ ≤ _; rw [List.length_append, wsBs_len, List.length_take]; have := HYL.out; omega
   have hw2 := own_away HO.out.1
   have HZK : Hid (∀ w1 v1, Kp (wr.alloc (.cells #[.int .i64 z.c, .int .i64 z.l] 93)) w1 u0 v1 → w1.cell? ⟨wr.heap.size, 0, none⟩ = some (.int .i64 z.c) ∧ w1.cell? ⟨wr.heap.size, 1, none⟩ = some (.int .i64 z.l)) := fun w1 v1 h => by
    have h1 := box_kept h hw2
    exact ⟨(blk_cell h1 0 rfl).1, (blk_cell h1 1 rfl).1⟩
   have HO2 : Hid (OwnB 5 (wr.alloc (.cells #[.int .i64 z.c, .int .i64 z.l] 93)) B u0 (ys ++ wsBs (x.ws.take k)) ∧ Kp wb (wr.alloc (.cells #[.int .i64 z.c, .int .i64 z.l] 93)) v u0 ∧ Kp (wr.alloc (.cells #[.int .i64 z.c, .int .i64 z.l] 93)) (wr.alloc (.cells #[.int .i64 z.c, .int .i64 z.l] 93)) u0 u0) := ⟨own_alloc HO.out.1 _, HO.out.2.alloc _, Kp.refl _ _⟩
   clear hz hw2 HO
   go_upto_region 9 with fail
   clear c0 c1
   generalize wr.alloc (.cells #[.int .i64 z.c, .int .i64 z.l] 93) = wz at HZK HO2 ⊢
   obtain ⟨p0, p1⟩ := HZK.out _ _ HO2.out.2.2
   go_wp2_with fail
   refine (putNumber_any _ _ _ 1 B _ HO2.out.1 (Nat.le_trans HBB.out HO2.out.2.1.size) (by decide) (by have := HLN.out; omega)).mono ?_
   rintro e w6 ⟨v6, rfl, o6, k6⟩
   obtain ⟨p0', p1'⟩ := HZK.out _ _ k6
   have O6 : Hid (OwnB 5 w6 B v6 _ ∧ Kp wb w6 v v6) := ⟨o6, HO2.out.2.1.trans k6⟩
   clear o6 k6 p0 p1
   go_wp2_with fail
   refine (putNumber_any _ _ _ 2 B _ O6.out.1 (Nat.le_trans HBB.out O6.out.2.size) (by decide) (by have := HLN.out; rw [List.length_append, nums_length]; omega)).mono ?_
   rintro e w7 ⟨v7, rfl, o7, k7⟩
   have O7 : Hid (OwnB 5 w7 B v7 (ys ++ wsBs (x.ws.take (k + 1))) ∧ Kp wb w7 v v7) := ⟨by rw [HT.out]; unfold wtBs; simpa [List.append_assoc] using o7, O6.out.2.trans k7⟩
   clear o7 k7 p0' p1' O6 HO2
   go_wp2_with fail
   exact ⟨⟨k + 1, by omega, by go_num, O7⟩, by simp [intOf]; omega⟩
  ·obtain rfl : k = x.ws.length := by omega
   have HE : Hid (ys ++ wsBs (x.ws.take x.ws.length) = zs ++ lkBs x) := by show _ = _; rw [List.take_length, ← HYS.out]; unfold lkBs; simp [List.append_assoc]
   rw [HE.out] at HO
   go_wp2_with fail
   go_ret
   exact ⟨_, rfl, HO.out.1, K0.out.trans HO.out.2⟩
end Go.Proofs.YtakfniknkejgpaaDoor.Pt

/- TableBytes of the program. -/
namespace Go.Proofs.YtakfniknkejgpaaDoor.Pt
open Go.RowKit Go.Proofs.YtakfniknkejgpaaDoor.Sl Go.Proofs.YtakfniknkejgpaaDoor.By Go.Proofs.YtakfniknkejgpaaDoor.Ap Go.Proofs.YtakfniknkejgpaaDoor.Tx Go.Proofs.YtakfniknkejgpaaDoor.Tb Go.Proofs.YtakfniknkejgpaaDoor.Tw Go.Proofs.YtakfniknkejgpaaDoor.Rq Go.Proofs.YtakfniknkejgpaaDoor.Tp Go.Proofs.YtakfniknkejgpaaDoor.Pu

theorem ret_tup {v : Value} {a b : Int} (h : a = b) : Ending.returned (.tuple #[v, .int .i64 a]) = .returned (.tuple #[v, .int .i64 b]) := by rw [h]
noncomputable def tbOut (tm nx : Int) (ls : List Lk) (ss : List Sn) : List Int := if bOf (TOK ⟨tm, nx, ls, ss⟩) then tabBs tm nx ls ss else []
noncomputable def tbCode (tm nx : Int) (ls : List Lk) (ss : List Sn) : Int := if bOf (TOK ⟨tm, nx, ls, ss⟩) then 0 else 1
def Bnd (ls : List Lk) (ss : List Sn) : Prop := ls.length ≤ 4 ∧ ss.length ≤ 6 ∧ (∀ x ∈ ls, x.n.size ≤ 12 ∧ x.ws.length ≤ 4 ∧ -1 ≤ x.h ∧ x.h ≤ 255) ∧ ∀ x ∈ ss, -1 ≤ x.h ∧ x.h ≤ 255
theorem op_size {n : ByteArray} (h : opB n = true) : n.size ≤ 12 := by unfold opB at h; simp at h; exact h.1
theorem tok_bnd {tm nx : Int} {ls : List Lk} {ss : List Sn} (h : TOK ⟨tm, nx, ls, ss⟩) : Bnd ls ss := by
 obtain ⟨_, _, h3, h4, h5, h6⟩ := h
 refine ⟨h3, h5, fun x hx => ?_, fun x hx => ?_⟩
 ·obtain ⟨i, hi, rfl⟩ := List.mem_iff_getElem.1 hx
  obtain ⟨_, g2, _, g4⟩ := h4 i _ (List.getElem?_eq_getElem hi)
  refine ⟨op_size g2, ?_⟩
  rcases g4 with ⟨g, _, k⟩ | ⟨_, g, _, k, _⟩
  ·omega
  ·have := inB_le g; omega
 ·obtain ⟨i, hi, rfl⟩ := List.mem_iff_getElem.1 hx
  exact inB_le (h6 i _ (List.getElem?_eq_getElem hi)).2.2.2.2.1
theorem tok_true {p : Prop} (h : bOf p = true) : p := Classical.byContradiction fun hn => by rw [bOf_false hn] at h; cases h
theorem take_le {α : Type} {xs : List α} {p : α → Prop} (h : ∀ x ∈ xs, p x) (k : Nat) : ∀ x ∈ xs.take k, p x := fun x hx => h x (List.mem_of_mem_take hx)
set_option maxRecDepth 100000 in
set_option maxHeartbeats 3200000 in
theorem implTableBytes_any (tm nx : Int) (vl vs : Value) (ls : List Lk) (ss : List Sn) (w : World) (hl : RowL w vl ls) (hs : RowS w vs ss) (hw : ∀ x ∈ ls, x.n.size ≤ 1048576 ∧ x.ws.length ≤ 1048576) (hy1 : ls.length ≤ 1048576) (hy2 : ss.length ≤ 1048576) :
 Calls Tryd.prog 6 #[tabV tm nx vl vs] w fun e w' => ∃ v, e = .returned (.tuple #[v, .int .i64 (tbCode tm nx ls ss)]) ∧ OwnB 5 w' w.heap.size v (tbOut tm nx ls ss) ∧ Below w.heap.size w w' := by
 obtain ⟨la, lc, rfl⟩ := RowG.slice hl
 obtain ⟨sa, sc, rfl⟩ := RowG.slice hs
 have HX : Hid (∀ W, Below (w.alloc (.cells #[.int .i64 tm, .int .i64 nx, .slice la ls.length lc, .slice sa ss.length sc] 26)).heap.size (w.alloc (.cells #[.int .i64 tm, .int .i64 nx, .slice la ls.length lc, .slice sa ss.length sc] 26)) W → (W.cell? ⟨w.heap.size, 0, none⟩ = some (.int .i64 tm) ∧ W.cell? ⟨w.heap.size, 1, none⟩ = some (.int .i64 nx) ∧ W.cell? ⟨w.heap.size, 2, none⟩ = some (.slice la ls.length lc) ∧ W.cell? ⟨w.heap.size, 3, none⟩ = some (.slice sa ss.length sc)) ∧ RowL W (.slice la ls.length lc) ls ∧ RowS W (.slice sa ss.length sc) ss ∧ w.heap.size < W.heap.size ∧ Below w.heap.size w W) := fun W hW => by
  have h1 := (hW.block w.heap.size (by simp)).trans (heap_alloc_new w _)
  exact ⟨⟨(blk_cell h1 0 rfl).1, (blk_cell h1 1 rfl).1, (blk_cell h1 2 rfl).1, (blk_cell h1 3 rfl).1⟩, (hl.below (bel_new _ _)).below hW, (hs.below (bel_new _ _)).below hW, (Array.getElem?_eq_some_iff.1 h1).1, (bel_new w _).trans (hW.mono (by simp))⟩
 have HOK : Hid (∀ W, Below w.heap.size w W → RowL W (.slice la ls.length lc) ls → RowS W (.slice sa ss.length sc) ss → Calls Tryd.prog 25 #[.agg #[.int .i64 tm, .int .i64 nx, .slice la ls.length lc, .slice sa ss.length sc]] W fun e w' => e = .returned (.bool (bOf (TOK ⟨tm, nx, ls, ss⟩))) ∧ Below W.heap.size W w') := fun W _ h1 h2 => implTableOK_any tm nx _ _ ls ss W h1 h2 hw hy1 hy2
 clear hl hs hw
 unfold tabV
 cases htk : bOf (TOK ⟨tm, nx, ls, ss⟩) with
 | false =>
   have HC : Hid (tbCode tm nx ls ss = 1 ∧ tbOut tm nx ls ss = []) := ⟨by unfold tbCode; rw [htk]; rfl, by unfold tbOut; rw [htk]; rfl⟩
   rw [htk] at HOK
   clear htk
   go_enter Tryd.func6, Tryd.ntmps6
   go_upto_region 1 with fail
   generalize w.alloc (.cells #[.int .i64 tm, .int .i64 nx, .slice la ls.length lc, .slice sa ss.length sc] 26) = wb at HX ⊢
   obtain ⟨⟨x0, x1, x2, x3⟩, r1, r2, _, rb⟩ := HX.out wb (Below.refl _ _)
   have HR : Hid (RowL wb (.slice la ls.length lc) ls ∧ RowS wb (.slice sa ss.length sc) ss ∧ Below w.heap.size w wb) := ⟨r1, r2, rb⟩
   clear r1 r2 rb
   go_wp2_with fail
   refine (HOK.out _ HR.out.2.2 HR.out.1 HR.out.2.1).mono ?_
   rintro e w1 ⟨rfl, b1⟩
   have HB1 : Hid (Below w.heap.size w w1) := HR.out.2.2.trans (b1.mono HR.out.2.2.size)
   clear b1
   go_wp2_with fail
   go_ret2
   exact ⟨_, ret_tup HC.out.1.symm, by rw [HC.out.2]; exact own_nil _ _ _, HB1.out⟩
 | true =>
   have HC : Hid (tbCode tm nx ls ss = 0 ∧ tbOut tm nx ls ss = tabBs tm nx ls ss) := ⟨by unfold tbCode; rw [htk]; rfl, by unfold tbOut; rw [htk]; rfl⟩
   have HBD : Hid (Bnd ls ss) := tok_bnd (tok_true htk)
   rw [htk] at HOK
   clear htk
   go_enter Tryd.func6, Tryd.ntmps6
   go_upto_region 1 with fail
   generalize w.alloc (.cells #[.int .i64 tm, .int .i64 nx, .slice la ls.length lc, .slice sa ss.length sc] 26) = wb at HX ⊢
   obtain ⟨⟨x0, x1, x2, x3⟩, r1, r2, _, rb⟩ := HX.out wb (Below.refl _ _)
   have HR : Hid (RowL wb (.slice la ls.length lc) ls ∧ RowS wb (.slice sa ss.length sc) ss ∧ Below w.heap.size w wb) := ⟨r1, r2, rb⟩
   clear r1 r2 rb
   go_wp2_with fail
   refine (HOK.out _ HR.out.2.2 HR.out.1 HR.out.2.1).mono ?_
   rintro e w1 ⟨rfl, b1⟩
   have HX1 : Hid (∀ W, Below w1.heap.size w1 W → (W.cell? ⟨w.heap.size, 0, none⟩ = some (.int .i64 tm) ∧ W.cell? ⟨w.heap.size, 1, none⟩ = some (.int .i64 nx) ∧ W.cell? ⟨w.heap.size, 2, none⟩ = some (.slice la ls.length lc) ∧ W.cell? ⟨w.heap.size, 3, none⟩ = some (.slice sa ss.length sc)) ∧ RowLB w1.heap.size W (.slice la ls.length lc) ls ∧ RowSB w1.heap.size W (.slice sa ss.length sc) ss ∧ Below w.heap.size w W) := fun W hW => by
    obtain ⟨k1, _, _, _, k5⟩ := HX.out W (b1.trans (hW.mono b1.size))
    obtain ⟨_, k2, k3, _, _⟩ := HX.out w1 b1
    exact ⟨k1, (RowL.low k2).below hW, (RowS.low k3).below hW, k5⟩
   have HS1 : Hid (w.heap.size ≤ w1.heap.size) := (HR.out.2.2.trans (b1.mono HR.out.2.2.size)).size
   clear b1 HR HX x0 x1 x2 x3 HOK
   obtain ⟨⟨x0, x1, x2, x3⟩, _⟩ := HX1.out w1 (Below.refl _ _)
   go_wp2_with fail
   refine (putNumber_any (.slice none 0 0) [] tm 4 w1.heap.size _ (own_nil _ _ _) (Nat.le_refl _) (by decide) (by simp)).mono ?_
   rintro e w2 ⟨v2, rfl, o2, k2⟩
   have B2 : Hid (Below w1.heap.size w1 w2) := k2.nil
   have O2 : Hid (OwnB 5 w2 w1.heap.size v2 (nums tm 4 4)) := (show OwnB 5 w2 w1.heap.size v2 (nums tm 4 4) from by simpa using o2)
   clear o2 k2 x0 x1 x2 x3
   obtain ⟨⟨x0, x1, x2, x3⟩, _⟩ := HX1.out w2 B2.out
   go_wp2_with fail
   refine (putNumber_any _ _ nx 3 w1.heap.size _ O2.out B2.out.size (by decide) (by rw [nums_length]; decide)).mono ?_
   rintro e w3 ⟨v3, rfl, o3, k3⟩
   have B3 : Hid (Below w1.heap.size w1 w3) := B2.out.trans (k3.below O2.out B2.out.size)
   have O3 : Hid (OwnB 5 w3 w1.heap.size v3 (nums tm 4 4 ++ nums nx 3 3)) := o3
   clear o3 k3 x0 x1 x2 x3 O2 B2
   obtain ⟨⟨x0, x1, x2, x3⟩, _⟩ := HX1.out w3 B3.out
   go_wp2_with fail
   refine (putNumber_any _ _ _ 1 w1.heap.size _ O3.out B3.out.size (by decide) (by rw [List.length_append, nums_length, nums_length]; decide)).mono ?_
   rintro e w4 ⟨v4, rfl, o4, k4⟩
   have B4 : Hid (Below w1.heap.size w1 w4) := B3.out.trans (k4.below O3.out B3.out.size)
   obtain ⟨ys, HYS⟩ : ∃ ys, Hid (nums tm 4 4 ++ nums nx 3 3 ++ nums (ls.length : Int) 1 1 = ys) := ⟨_, rfl⟩
   have HYL : Hid (ys.length = 8) := by show _ = _; rw [← HYS.out]; simp only [List.length_append, nums_length]
   have O4 : Hid (OwnB 5 w4 w1.heap.size v4 ys) := by show OwnB _ _ _ _ _; rw [← HYS.out]; exact o4
   clear o4 k4 x0 x1 x2 x3 O3 B3
   obtain ⟨⟨x0, x1, x2, x3⟩, _⟩ := HX1.out w4 B4.out
   go_wp2_with fail
   clear x0 x1 x2 x3
   go_loopw [4, 27] (fun b i wr => ∃ k : Nat, k ≤ ls.length ∧ i = .int .i64 k ∧ Hid (OwnB 5 wr w1.heap.size b (ys ++ lsBs (ls.take k)) ∧ Below w1.heap.size w1 wr)) (fun _ i _ => ls.length - (intOf i).toNat)
   case atStart => exact ⟨0, by omega, rfl, ⟨by simpa [lsBs] using O4.out, B4.out⟩⟩
   case round =>
    clear O4 B4
    obtain ⟨k, hk, rfl, HO⟩ := hrel
    by_cases hlt : k < ls.length
    ·obtain ⟨x, hx⟩ := Tw.get_at hlt
     obtain ⟨b, off, rfl, hbl, hbB, u, c0, c1, c2, c3, c4, c5⟩ := RowG.at (HX1.out _ HO.out.2).2.1 rfl hx
     obtain ⟨ua, uc, rfl⟩ := RowG.slice c5
     have HT : Hid (lsBs (ls.take (k + 1)) = lsBs (ls.take k) ++ lkBs x) := take_bs lkBs hx
     have HXB : Hid (x.n.size ≤ 12 ∧ x.ws.length ≤ 4 ∧ -1 ≤ x.h ∧ x.h ≤ 255) := HBD.out.2.2.1 x (mem_at hx)
     have HLN : Hid ((ys ++ lsBs (ls.take k)).length ≤ 1000) := by
      show _ ≤ _
      have h1 := lsBs_le (ls.take k) (take_le (fun x hx => ⟨(HBD.out.2.2.1 x hx).1, (HBD.out.2.2.1 x hx).2.1⟩) k)
      have h2 := HBD.out.1
      rw [List.length_append, HYL.out]
      rw [List.length_take] at h1
      omega
     have HUB : Hid (RowWB w1.heap.size wr (.slice ua x.ws.length uc) x.ws) := c5
     have HBN : Hid (Below w1.heap.size w1 (wr.alloc (.cells #[.string x.n, .int .i64 x.t, .int .i64 x.h, .int .i64 x.e, .slice ua x.ws.length uc] 52)) ∧ Below w1.heap.size wr (wr.alloc (.cells #[.string x.n, .int .i64 x.t, .int .i64 x.h, .int .i64 x.e, .slice ua x.ws.length uc] 52))) := ⟨HO.out.2.trans ((bel_new wr _).mono HO.out.2.size), (bel_new wr _).mono HO.out.2.size⟩
     clear hx c5
     go_wp2_with fail
     refine (putLock_any _ _ x _ w1.heap.size _ (own_alloc HO.out.1 _) HBN.out.1.size (by have := HLN.out; omega) HXB.out.2.2 (by have := HXB.out.1; omega) (by have := HXB.out.2.1; omega) (HUB.out.below HBN.out.2)).mono ?_
     rintro e w5 ⟨v5, rfl, o5, k5⟩
     have O5 : Hid (OwnB 5 w5 w1.heap.size v5 (ys ++ lsBs (ls.take (k + 1))) ∧ Below w1.heap.size w1 w5) := ⟨by rw [HT.out, ← List.append_assoc]; exact o5, HBN.out.1.trans (k5.below (own_alloc HO.out.1 _) HBN.out.1.size)⟩
     clear o5 k5 c0 c1 c2 c3 c4
     go_wp2_with fail
     exact ⟨⟨k + 1, by omega, by go_num, O5⟩, by simp [intOf]; omega⟩
    ·obtain rfl : k = ls.length := by omega
     rw [List.take_length] at HO
     obtain ⟨⟨x0, x1, x2, x3⟩, _⟩ := HX1.out wr HO.out.2
     have HLN : Hid ((ys ++ lsBs ls).length ≤ 1000) := by
      show _ ≤ _
      have h1 := lsBs_le ls (fun x hx => ⟨(HBD.out.2.2.1 x hx).1, (HBD.out.2.2.1 x hx).2.1⟩)
      have h2 := HBD.out.1
      rw [List.length_append, HYL.out]
      omega
     go_wp2_with fail
     refine (putNumber_any _ _ _ 1 w1.heap.size _ HO.out.1 HO.out.2.size (by decide) (by have := HLN.out; omega)).mono ?_
     rintro e w6 ⟨v6, rfl, o6, k6⟩
     have B6 : Hid (Below w1.heap.size w1 w6) := HO.out.2.trans (k6.below HO.out.1 HO.out.2.size)
     obtain ⟨zs, HZS⟩ : ∃ zs, Hid (ys ++ lsBs ls ++ nums (ss.length : Int) 1 1 = zs) := ⟨_, rfl⟩
     have HZL : Hid (zs.length ≤ 1001) := by show _ ≤ _; rw [← HZS.out, List.length_append, nums_length]; have := HLN.out; omega
     have O6 : Hid (OwnB 5 w6 w1.heap.size v6 zs) := by show OwnB _ _ _ _ _; rw [← HZS.out]; exact o6
     clear o6 k6 x0 x1 x2 x3 HO
     obtain ⟨⟨x0, x1, x2, x3⟩, _⟩ := HX1.out w6 B6.out
     go_wp2_with fail
     clear x0 x1 x2 x3
     go_loopw [4, 43] (fun b i wr => ∃ k : Nat, k ≤ ss.length ∧ i = .int .i64 k ∧ Hid (OwnB 5 wr w1.heap.size b (zs ++ ssBs (ss.take k)) ∧ Below w1.heap.size w1 wr)) (fun _ i _ => ss.length - (intOf i).toNat)
     case atStart => exact ⟨0, by omega, rfl, ⟨by simpa [ssBs] using O6.out, B6.out⟩⟩
     case round =>
      clear O6 B6
      obtain ⟨k, hk, rfl, HO⟩ := hrel
      by_cases hlt : k < ss.length
      ·obtain ⟨x, hx⟩ := Tw.get_at hlt
       obtain ⟨b, off, rfl, hbl, hbB, c0, c1, c2, c3, c4, c5⟩ := RowG.at (HX1.out _ HO.out.2).2.2.1 rfl hx
       have HT : Hid (ssBs (ss.take (k + 1)) = ssBs (ss.take k) ++ snBs x) := take_bs snBs hx
       have HXB : Hid (-1 ≤ x.h ∧ x.h ≤ 255) := HBD.out.2.2.2 x (mem_at hx)
       have HLN2 : Hid ((zs ++ ssBs (ss.take k)).length ≤ 2000) := by
        show _ ≤ _
        have h2 := HBD.out.2.1
        have h3 := HZL.out
        rw [List.length_append, ssBs_len, List.length_take]
        omega
       have HBN : Hid (Below w1.heap.size w1 (wr.alloc (.cells #[.int .i64 x.c, .int .i64 x.s, .int .i64 x.k, .int .i64 x.t, .int .i64 x.h, .int .i64 x.e] 57))) := HO.out.2.trans ((bel_new wr _).mono HO.out.2.size)
       clear hx
       go_wp2_with fail
       refine (putSeen_any _ _ x w1.heap.size _ (own_alloc HO.out.1 _) HBN.out.size (by have := HLN2.out; omega) HXB.out).mono ?_
       rintro e w7 ⟨v7, rfl, o7, k7⟩
       have O7 : Hid (OwnB 5 w7 w1.heap.size v7 (zs ++ ssBs (ss.take (k + 1))) ∧ Below w1.heap.size w1 w7) := ⟨by rw [HT.out, ← List.append_assoc]; exact o7, HBN.out.trans (k7.below (own_alloc HO.out.1 _) HBN.out.size)⟩
       clear o7 k7 c0 c1 c2 c3 c4 c5
       go_wp2_with fail
       exact ⟨⟨k + 1, by omega, by go_num, O7⟩, by simp [intOf]; omega⟩
      ·obtain rfl : k = ss.length := by omega
       rw [List.take_length] at HO
       have HE : Hid (zs ++ ssBs ss = tabBs tm nx ls ss) := by show _ = _; rw [← HZS.out, ← HYS.out]; unfold tabBs; simp [List.append_assoc]
       have HFB : Hid (Below w.heap.size w wr) := (HX1.out wr HO.out.2).2.2.2
       go_wp2_with fail
       go_ret2
       exact ⟨_, ret_tup HC.out.1.symm, by rw [HC.out.2, ← HE.out]; exact own_le HO.out.1 HS1.out, HFB.out⟩
end Go.Proofs.YtakfniknkejgpaaDoor.Pt

/- The bytes of tables: the specification. -/
namespace Go.Proofs.YtakfniknkejgpaaDoor.Ps
open Go.RowKit Go.Proofs.YtakfniknkejgpaaDoor.Sl Go.Proofs.YtakfniknkejgpaaDoor.By Go.Proofs.YtakfniknkejgpaaDoor.Ap Go.Proofs.YtakfniknkejgpaaDoor.Tx Go.Proofs.YtakfniknkejgpaaDoor.Tb Go.Proofs.YtakfniknkejgpaaDoor.Tw Go.Proofs.YtakfniknkejgpaaDoor.Rq Go.Proofs.YtakfniknkejgpaaDoor.Tp Go.Proofs.YtakfniknkejgpaaDoor.Pu Go.Proofs.YtakfniknkejgpaaDoor.Pt

theorem kdrew {w w1 : World} {v v1 : Value} (h : Kp w w1 v v1) : Kp w w1.drew v v1 := ⟨h.os, h.tape, h.output, h.size, h.block, h.away⟩
theorem ble {B : Nat} {w w1 : World} {v v1 : Value} (hB : B ≤ w.heap.size) (h : Kp w w1 v v1) : B ≤ w1.heap.size := Nat.le_trans hB h.size
theorem num2 (x : Int) (w : World) : Calls Tryd.prog 59 #[.int .i64 x, .int .i64 2] w fun e w' => ∃ v', e = .returned v' ∧ OwnB 5 w' w.heap.size v' (nums x 2 2) ∧ Below w.heap.size w w' := l02Number_any x 2 w (by decide)
theorem num3 (x : Int) (w : World) : Calls Tryd.prog 59 #[.int .i64 x, .int .i64 3] w fun e w' => ∃ v', e = .returned v' ∧ OwnB 5 w' w.heap.size v' (nums x 3 3) ∧ Below w.heap.size w w' := l02Number_any x 3 w (by decide)
theorem num4 (x : Int) (w : World) : Calls Tryd.prog 59 #[.int .i64 x, .int .i64 4] w fun e w' => ∃ v', e = .returned v' ∧ OwnB 5 w' w.heap.size v' (nums x 4 4) ∧ Below w.heap.size w w' := l02Number_any x 4 w (by decide)
theorem first_num {e : TypeId} {wb w1 : World} {B : Nat} {v : Value} {xs : List Int} (hB : B = wb.heap.size) (b1 : Below wb.drew.heap.size wb.drew w1) (o1 : OwnB e w1 wb.drew.heap.size v xs) : Below B wb w1 ∧ OwnB e w1 B v xs := by
 subst hB
 exact ⟨(ordB rfl b1).1, o1⟩
theorem next_num {B : Nat} {wb w1 w2 : World} (h : Below B wb w1) (hB : B ≤ wb.heap.size) (b : Below w1.heap.size w1 w2) : Below B wb w2 := h.trans (b.mono (Nat.le_trans hB h.size))
theorem at_drew {wb : World} {B : Nat} : Below B wb wb.drew := (Below.refl _ _).drew
theorem call_all {e : TypeId} {B : Nat} {w0 X wn : World} {v0 v : Value} {zs : List Int} (bn : Below X.heap.size X wn) (o : OwnB e X B v zs) (k : Kp w0 X v0 v) : OwnB e wn B v zs ∧ Kp w0 wn v0 v ∧ ∀ g, v.ownBlock = some g → g < X.heap.size := ⟨own_below o bn, k.trans (Kp.of_below _ bn), own_lt o⟩
theorem one_num {x : Int} (h : 0 ≤ x ∧ x ≤ 255) : [x] = nums x 1 1 := by simp [nums, nb]; omega
theorem wrap1 (x : Int) : [IntKind.u8.wrap x] = nums x 1 1 := by simp [nums, nb, IntKind.wrap_u8]
set_option maxRecDepth 100000 in
set_option maxHeartbeats 6400000 in
theorem l05Bytes_any (tm nx : Int) (vl vs : Value) (ls : List Lk) (ss : List Sn) (w : World) (hl : RowL w vl ls) (hs : RowS w vs ss) (hbd : Bnd ls ss) :
 Calls Tryd.prog 30 #[tabV tm nx vl vs] w fun e w' => ∃ v, e = .returned v ∧ OwnB 5 w' w.heap.size v (tabBs tm nx ls ss) ∧ Below w.heap.size w w' := by
 obtain ⟨la, lc, rfl⟩ := RowG.slice hl
 obtain ⟨sa, sc, rfl⟩ := RowG.slice hs
 obtain ⟨i0, hi, hz0, hz1, hz2⟩ := info_parts Sl.info5
 have HBD : Hid (Bnd ls ss) := hbd
 have HX : Hid (∀ W, Below (w.alloc (.cells #[.int .i64 tm, .int .i64 nx, .slice la ls.length lc, .slice sa ss.length sc] 26)).heap.size (w.alloc (.cells #[.int .i64 tm, .int .i64 nx, .slice la ls.length lc, .slice sa ss.length sc] 26)) W → (W.cell? ⟨w.heap.size, 0, none⟩ = some (.int .i64 tm) ∧ W.cell? ⟨w.heap.size, 1, none⟩ = some (.int .i64 nx) ∧ W.cell? ⟨w.heap.size, 2, none⟩ = some (.slice la ls.length lc) ∧ W.cell? ⟨w.heap.size, 3, none⟩ = some (.slice sa ss.length sc)) ∧ RowLB (w.alloc (.cells #[.int .i64 tm, .int .i64 nx, .slice la ls.length lc, .slice sa ss.length sc] 26)).heap.size W (.slice la ls.length lc) ls ∧ RowSB (w.alloc (.cells #[.int .i64 tm, .int .i64 nx, .slice la ls.length lc, .slice sa ss.length sc] 26)).heap.size W (.slice sa ss.length sc) ss ∧ Below w.heap.size w W) := fun W hW => by
  have h1 := (hW.block w.heap.size (by simp)).trans (heap_alloc_new w _)
  exact ⟨⟨(blk_cell h1 0 rfl).1, (blk_cell h1 1 rfl).1, (blk_cell h1 2 rfl).1, (blk_cell h1 3 rfl).1⟩, (RowL.low (hl.below (bel_new _ _))).below hW, (RowS.low (hs.below (bel_new _ _))).below hW, (bel_new w _).trans (hW.mono (by simp))⟩
 have HSZ : Hid (w.heap.size ≤ (w.alloc (.cells #[.int .i64 tm, .int .i64 nx, .slice la ls.length lc, .slice sa ss.length sc] 26)).heap.size) := by show _ ≤ _; simp
 clear hl hs hbd
 unfold tabV
 go_enter Tryd.func30, Tryd.ntmps30
 go_upto_region 1 with fail
 generalize w.alloc (.cells #[.int .i64 tm, .int .i64 nx, .slice la ls.length lc, .slice sa ss.length sc] 26) = wb at HX HSZ ⊢
 obtain ⟨B, HB⟩ : ∃ B, Hid (B = wb.heap.size) := ⟨_, rfl⟩
 rw [← HB.out] at HX
 have HBL : Hid (B ≤ wb.heap.size) := Nat.le_of_eq HB.out
 go_cut [3] (fun s3 wx => OwnB 5 wx B s3 (nums tm 4 4 ++ nums nx 3 3) ∧ Below B wb wx)
 case first =>
  go_region_held_law (fun W => W.cell? ⟨w.heap.size, 0, none⟩ = some (.int .i64 tm) ∧ W.cell? ⟨w.heap.size, 1, none⟩ = some (.int .i64 nx) ∧ W.cell? ⟨w.heap.size, 2, none⟩ = some (.slice la ls.length lc) ∧ W.cell? ⟨w.heap.size, 3, none⟩ = some (.slice sa ss.length sc)) (first | exact (HX.out _ at_drew).1 | exact (HX.out _ q1.out).1 | exact (HX.out _ q2.out).1 | exact (HX.out _ q3.out).1)
   (first
     | (go_simp; go_at_call 59; (with_reducible refine (num4 tm _).mono ?_); rintro e w1 ⟨v1, rfl, o1, b1⟩; obtain ⟨q1x, p1⟩ := first_num HB.out b1 o1; have q1 : Hid (Below B wb w1) := q1x; clear o1 b1 q1x; try go_simp)
     | (go_simp; go_at_call 59; (with_reducible refine (num3 nx _).mono ?_); rintro e w2 ⟨v2, rfl, o2, b2⟩; have q2x := next_num q1.out HBL.out b2; have q2 : Hid (Below B wb w2) := q2x; clear q2x; have p2 := own_below p1 b2; have r2 := own_rowB o2 (nums_range _ _ _); clear o2 b2; try go_simp)
     | (refine step_row (by rfl) _ _ 22 (by rfl) Tryd.underlying22 hi hz0 hz1 hz2 B _ _ _ _ _ (by rfl) (by rfl) p2 (Nat.le_trans HBL.out q2.out.size) r2 (by simp only [nums_length]; decide) ?_; intro v3 w3 o3 k3; have q3x := q2.out.trans (k3.below p2 (Nat.le_trans HBL.out q2.out.size)); have q3 : Hid (Below B wb w3) := q3x; clear q3x; try go_simp))
  all_goals
   go_wp2_with fail
   go_meet
   exact ⟨o3, q3.out⟩
 case rest =>
 obtain ⟨o1, g1⟩ := hcut
 obtain ⟨wA, rfl⟩ : ∃ wA, wA = wc := ⟨_, rfl⟩
 have O1 : Hid (OwnB 5 wA B u3 (nums tm 4 4 ++ nums nx 3 3) ∧ Below B wb wA) := ⟨o1, g1⟩
 obtain ⟨⟨x0, x1, x2, x3⟩, _⟩ := HX.out _ g1
 clear o1 g1
 have hlr : (0 : Int) ≤ (ls.length : Int) ∧ (ls.length : Int) ≤ 255 := by have := HBD.out.1; omega
 go_wp2_with (at_builtin; go_must (refine list_one (by rfl) _ _ 22 (by rfl) Tryd.underlying22 hi hz0 hz1 hz2 B _ _ _ _ (by rfl) (by rfl) O1.out.1 (Nat.le_trans HBL.out O1.out.2.size) hlr (by simp only [List.length_append, nums_length]; decide) ?_; intro v2 w2 o2 k2))
 have B2 := O1.out.2.trans (k2.below O1.out.1 (Nat.le_trans HBL.out O1.out.2.size))
 obtain ⟨ys, HYS⟩ : ∃ ys, Hid (nums tm 4 4 ++ nums nx 3 3 ++ nums (ls.length : Int) 1 1 = ys) := ⟨_, rfl⟩
 have HYL : Hid (ys.length = 8) := by show _ = _; rw [← HYS.out]; simp only [List.length_append, nums_length]
 rw [one_num hlr, HYS.out] at o2
 have O2 : Hid (OwnB 5 w2 B v2 ys ∧ Below B wb w2) := ⟨o2, B2⟩
 clear o2 k2 B2 O1 hlr x0 x1 x2 x3
 have hl4 : ls.length ≤ 4 := HBD.out.1
 have hl6 : ss.length ≤ 6 := HBD.out.2.1
 obtain ⟨⟨x0, x1, x2, x3⟩, _⟩ := HX.out _ O2.out.2
 go_wp2_with fail
 clear x0 x1 x2 x3
 go_loopw [3, 4] (fun b i wr => ∃ k : Nat, k ≤ ls.length ∧ i = .int .i64 k ∧ Hid (OwnB 5 wr B b (ys ++ lsBs (ls.take k)) ∧ Below B wb wr)) (fun _ i _ => ls.length - (intOf i).toNat)
 case atStart => exact ⟨0, by omega, rfl, ⟨by simpa [lsBs] using O2.out.1, O2.out.2⟩⟩
 case round =>
  rename World => wk
  clear O2
  obtain ⟨k, hk, rfl, HO⟩ := hrel
  obtain ⟨v0, rfl⟩ : ∃ v0, v0 = u3 := ⟨_, rfl⟩
  obtain ⟨⟨x0, x1, x2, x3⟩, hrl, _, _⟩ := HX.out _ HO.out.2
  by_cases hlt : k < ls.length
  ·obtain ⟨x, hx⟩ := Tw.get_at hlt
   obtain ⟨b, off, rfl, hbl, hbB, u, c0, c1, c2, c3, c4, c5⟩ := RowG.at hrl rfl hx
   obtain ⟨ua, uc, rfl⟩ := RowG.slice c5
   have HT : Hid (lsBs (ls.take (k + 1)) = lsBs (ls.take k) ++ lkBs x) := take_bs lkBs hx
   have HXB : Hid (x.n.size ≤ 12 ∧ x.ws.length ≤ 4) := ⟨(HBD.out.2.2.1 x (mem_at hx)).1, (HBD.out.2.2.1 x (mem_at hx)).2.1⟩
   have hh1 := (HBD.out.2.2.1 x (mem_at hx)).2.2
   have hwr : IntKind.i64.wrap (x.h + 1) = x.h + 1 := by rw [IntKind.wrap_i64]; omega
   obtain ⟨zs, HZS⟩ : ∃ zs, Hid (ys ++ lsBs (ls.take k) = zs) := ⟨_, rfl⟩
   have HLN : Hid (zs.length ≤ 1000) := by
    show _ ≤ _
    have h1 := lsBs_le (ls.take k) (take_le (fun x hx => ⟨(HBD.out.2.2.1 x hx).1, (HBD.out.2.2.1 x hx).2.1⟩) k)
    have h2 := HBD.out.1
    rw [← HZS.out, List.length_append, HYL.out]
    rw [List.length_take] at h1
    omega
   rw [HZS.out] at HO
   obtain ⟨bx, HBX⟩ : ∃ bx, Hid (wk.heap.size = bx) := ⟨_, rfl⟩
   have O0 : Hid (OwnB 5 (wk.alloc (.cells #[.string x.n, .int .i64 x.t, .int .i64 x.h, .int .i64 x.e, .slice ua x.ws.length uc] 52)) B v0 zs ∧ B ≤ (wk.alloc (.cells #[.string x.n, .int .i64 x.t, .int .i64 x.h, .int .i64 x.e, .slice ua x.ws.length uc] 52)).heap.size) := ⟨own_alloc HO.out.1 _, Nat.le_trans (Nat.le_trans HBL.out HO.out.2.size) (by simp)⟩
   have HL : Hid (∀ W v', Kp (wk.alloc (.cells #[.string x.n, .int .i64 x.t, .int .i64 x.h, .int .i64 x.e, .slice ua x.ws.length uc] 52)) W v0 v' → (W.cell? ⟨bx, 0, none⟩ = some (.string x.n) ∧ W.cell? ⟨bx, 1, none⟩ = some (.int .i64 x.t) ∧ W.cell? ⟨bx, 2, none⟩ = some (.int .i64 x.h) ∧ W.cell? ⟨bx, 3, none⟩ = some (.int .i64 x.e) ∧ W.cell? ⟨bx, 4, none⟩ = some (.slice ua x.ws.length uc)) ∧ W.cell? ⟨w.heap.size, 2, none⟩ = some (.slice (some ⟨b, off, none⟩) ls.length lc) ∧ RowWB B W (.slice ua x.ws.length uc) x.ws ∧ Below B wb W) := fun W v' h => by
    have h1 := box_kept h (own_away HO.out.1)
    rw [HBX.out] at h1
    have h2 := h.below O0.out.1 O0.out.2
    have h3 : Below B wk (wk.alloc (.cells #[.string x.n, .int .i64 x.t, .int .i64 x.h, .int .i64 x.e, .slice ua x.ws.length uc] 52)) := (bel_new wk _).mono (Nat.le_trans HBL.out HO.out.2.size)
    have h4 := HO.out.2.trans (h3.trans h2)
    exact ⟨⟨(blk_cell h1 0 rfl).1, (blk_cell h1 1 rfl).1, (blk_cell h1 2 rfl).1, (blk_cell h1 3 rfl).1, (blk_cell h1 4 rfl).1⟩, (HX.out W h4).1.2.2.1, RowWB.below (RowWB.below c5 h3) h2, h4⟩
   clear hx c5 hrl HO
   go_upto_region 7 with fail
   clear c0 c1 c2 c3 c4 x0 x1 x2 x3
   generalize wk.alloc (.cells #[.string x.n, .int .i64 x.t, .int .i64 x.h, .int .i64 x.e, .slice ua x.ws.length uc] 52) = w0 at HL O0 ⊢
   rw [HBX.out]
   have HB0 : Hid (B ≤ w0.heap.size) := O0.out.2
   go_cut [3, 5] (fun s3 s5 wx => s5 = .pointer (some ⟨bx, 0, none⟩) ∧ OwnB 5 wx B s3 (zs ++ nums (x.n.size : Int) 1 1 ++ bys x.n) ∧ Kp w0 wx v0 s3)
   case first =>
    have o1 := O0.out.1
    have k1 := Kp.refl w0 v0
    go_region_held_law (fun W => W.cell? ⟨bx, 0, none⟩ = some (.string x.n) ∧ W.cell? ⟨bx, 1, none⟩ = some (.int .i64 x.t) ∧ W.cell? ⟨bx, 2, none⟩ = some (.int .i64 x.h) ∧ W.cell? ⟨bx, 3, none⟩ = some (.int .i64 x.e) ∧ W.cell? ⟨bx, 4, none⟩ = some (.slice ua x.ws.length uc)) (first | exact (HL.out _ _ (by first | assumption | exact kdrew (by assumption) | exact Kp.alloc (by assumption) _ | exact kdrew (Kp.alloc (by assumption) _) | exact Kp.alloc (kdrew (by assumption)) _)).1)
     (first
       | (refine step_row (by rfl) _ _ 22 (by rfl) Tryd.underlying22 hi hz0 hz1 hz2 B _ _ _ _ _ (by rfl) (by rfl) (by first | assumption | exact own_drew (by assumption) | exact own_alloc (by assumption) _ | exact own_drew (own_alloc (by assumption) _) | exact own_alloc (own_drew (by assumption)) _) (ble HB0.out (by first | assumption | exact kdrew (by assumption) | exact Kp.alloc (by assumption) _ | exact kdrew (Kp.alloc (by assumption) _) | exact Kp.alloc (kdrew (by assumption)) _)) (by first | exact own_rowB fb (one_range (wrap_range _)) | exact own_rowB (own_one 5 _ _ _ (Nat.le_refl _)) (one_range (wrap_range _)) | exact rowB_drew (own_rowB (own_one 5 _ _ _ (Nat.le_refl _)) (one_range (wrap_range _))) | exact own_rowB (own_drew (own_one 5 _ _ _ (Nat.le_refl _))) (one_range (wrap_range _))) (by have := HLN.out; have := HXB.out; first | (simp; omega) | (simp [nums_length]; omega)) ?_; intro v8 w8 o8 k8x; have k8 := Kp.trans (by first | assumption | exact kdrew (by assumption) | exact Kp.alloc (by assumption) _ | exact kdrew (Kp.alloc (by assumption) _) | exact Kp.alloc (kdrew (by assumption)) _) k8x; try go_simp)
       | (refine step_str (by rfl) _ _ 22 9 (by rfl) Tryd.underlying22 Tryd.underlying9 hi hz0 hz1 hz2 B _ _ x.n _ (by rfl) (by rfl) (by first | assumption | exact own_drew (by assumption) | exact own_alloc (by assumption) _ | exact own_drew (own_alloc (by assumption) _) | exact own_alloc (own_drew (by assumption)) _) (ble HB0.out (by first | assumption | exact kdrew (by assumption) | exact Kp.alloc (by assumption) _ | exact kdrew (Kp.alloc (by assumption) _) | exact Kp.alloc (kdrew (by assumption)) _)) (by have := HLN.out; have := HXB.out; first | (simp; omega) | (simp [nums_length]; omega)) ?_; intro v9 w9 o9 k9x; have k9 := Kp.trans (by first | assumption | exact kdrew (by assumption) | exact Kp.alloc (by assumption) _ | exact kdrew (Kp.alloc (by assumption) _) | exact Kp.alloc (kdrew (by assumption)) _) k9x; try go_simp))
    all_goals
     rw [wrap1] at o9
     go_wp2_with fail
     go_meet
     exact ⟨rfl, o9, k9⟩
   case rest =>
   obtain ⟨rfl, o1, k1⟩ := hcut
   obtain ⟨w1, rfl⟩ : ∃ w1, w1 = wc := ⟨_, rfl⟩
   obtain ⟨v1, rfl⟩ : ∃ v1, v1 = u3 := ⟨_, rfl⟩
   obtain ⟨z1, HZ1⟩ : ∃ z1, Hid (zs ++ nums (x.n.size : Int) 1 1 ++ bys x.n = z1) := ⟨_, rfl⟩
   rw [HZ1.out] at o1
   have HLN : Hid (z1.length ≤ 1100) := by show _ ≤ _; rw [← HZ1.out]; simp only [List.length_append, nums_length, bys_length]; have := HLN.out; have := HXB.out; omega
   go_upto_region 8 with fail
   go_cut [3, 5] (fun s3 s5 wx => s5 = .pointer (some ⟨bx, 0, none⟩) ∧ OwnB 5 wx B s3 (z1 ++ nums x.t 3 3 ++ nums (x.h + 1) 2 2) ∧ Kp w0 wx v0 s3)
   case first =>
    go_region_held_law (fun W => W.cell? ⟨bx, 0, none⟩ = some (.string x.n) ∧ W.cell? ⟨bx, 1, none⟩ = some (.int .i64 x.t) ∧ W.cell? ⟨bx, 2, none⟩ = some (.int .i64 x.h) ∧ W.cell? ⟨bx, 3, none⟩ = some (.int .i64 x.e) ∧ W.cell? ⟨bx, 4, none⟩ = some (.slice ua x.ws.length uc)) (first | exact (HL.out _ _ (by first | assumption | exact kdrew (by assumption) | exact Kp.alloc (by assumption) _ | exact kdrew (Kp.alloc (by assumption) _) | exact Kp.alloc (kdrew (by assumption)) _)).1)
     (first
       | (go_simp; go_at_call 59; (with_reducible refine (num3 (x.t) _).mono ?_); rintro e wn ⟨vnf1, rfl, f1, bn⟩; obtain ⟨on, kn, h1⟩ := call_all bn (by first | assumption | exact own_drew (by assumption) | exact own_alloc (by assumption) _ | exact own_drew (own_alloc (by assumption) _) | exact own_alloc (own_drew (by assumption)) _) (by first | assumption | exact kdrew (by assumption) | exact Kp.alloc (by assumption) _ | exact kdrew (Kp.alloc (by assumption) _) | exact Kp.alloc (kdrew (by assumption)) _); clear bn; try go_simp)
       | (go_simp; go_at_call 59; (with_reducible refine (num2 (x.h + 1) _).mono ?_); rintro e wn ⟨vnf2, rfl, f2, bn⟩; obtain ⟨on, kn, h2⟩ := call_all bn (by first | assumption | exact own_drew (by assumption) | exact own_alloc (by assumption) _ | exact own_drew (own_alloc (by assumption) _) | exact own_alloc (own_drew (by assumption)) _) (by first | assumption | exact kdrew (by assumption) | exact Kp.alloc (by assumption) _ | exact kdrew (Kp.alloc (by assumption) _) | exact Kp.alloc (kdrew (by assumption)) _); (first | (have f1 := own_below f1 bn) | skip); clear bn; try go_simp)
       | (refine step_row (by rfl) _ _ 22 (by rfl) Tryd.underlying22 hi hz0 hz1 hz2 B _ _ _ _ _ (by rfl) (by rfl) (by first | assumption | exact own_drew (by assumption) | exact own_alloc (by assumption) _ | exact own_drew (own_alloc (by assumption) _) | exact own_alloc (own_drew (by assumption)) _) (ble HB0.out (by first | assumption | exact kdrew (by assumption) | exact Kp.alloc (by assumption) _ | exact kdrew (Kp.alloc (by assumption) _) | exact Kp.alloc (kdrew (by assumption)) _)) (by first | exact own_rowB f1 (nums_range _ _ _) | exact own_rowB (own_alloc f1 _) (nums_range _ _ _)) (by have := HLN.out; have := HXB.out; first | (simp; omega) | (simp [nums_length]; omega)) ?_; intro v8 w8 o8 k8x; have k8 := Kp.trans (by first | assumption | exact kdrew (by assumption) | exact Kp.alloc (by assumption) _ | exact kdrew (Kp.alloc (by assumption) _) | exact Kp.alloc (kdrew (by assumption)) _) k8x; (first | (have f2 := own_kp f2 k8x h2) | (have f2 := own_kp (own_alloc f2 _) k8x h2) | skip); try go_simp)
       | (refine step_row (by rfl) _ _ 22 (by rfl) Tryd.underlying22 hi hz0 hz1 hz2 B _ _ _ _ _ (by rfl) (by rfl) (by first | assumption | exact own_drew (by assumption) | exact own_alloc (by assumption) _ | exact own_drew (own_alloc (by assumption) _) | exact own_alloc (own_drew (by assumption)) _) (ble HB0.out (by first | assumption | exact kdrew (by assumption) | exact Kp.alloc (by assumption) _ | exact kdrew (Kp.alloc (by assumption) _) | exact Kp.alloc (kdrew (by assumption)) _)) (by first | exact own_rowB f2 (nums_range _ _ _) | exact own_rowB (own_alloc f2 _) (nums_range _ _ _)) (by have := HLN.out; have := HXB.out; first | (simp; omega) | (simp [nums_length]; omega)) ?_; intro v9 w9 o9 k9x; have k9 := Kp.trans (by first | assumption | exact kdrew (by assumption) | exact Kp.alloc (by assumption) _ | exact kdrew (Kp.alloc (by assumption) _) | exact Kp.alloc (kdrew (by assumption)) _) k9x; try go_simp))
    all_goals
     go_wp2_with fail
     go_meet
     exact ⟨rfl, o9, k9⟩
   case rest =>
   clear o1 k1
   obtain ⟨rfl, o1, k1⟩ := hcut
   obtain ⟨w2, rfl⟩ : ∃ w2, w2 = wc := ⟨_, rfl⟩
   obtain ⟨v2, rfl⟩ : ∃ v2, v2 = u3 := ⟨_, rfl⟩
   obtain ⟨z2, HZ2⟩ : ∃ z2, Hid (z1 ++ nums x.t 3 3 ++ nums (x.h + 1) 2 2 = z2) := ⟨_, rfl⟩
   rw [HZ2.out] at o1
   have HLN : Hid (z2.length ≤ 1200) := by show _ ≤ _; rw [← HZ2.out]; simp only [List.length_append, nums_length]; have := HLN.out; omega
   go_upto_region 9 with fail
   go_cut [3, 5] (fun s3 s5 wx => s5 = .pointer (some ⟨bx, 0, none⟩) ∧ OwnB 5 wx B s3 (z2 ++ nums x.e 4 4 ++ nums (x.ws.length : Int) 1 1) ∧ Kp w0 wx v0 s3)
   case first =>
    go_region_held_law (fun W => W.cell? ⟨bx, 0, none⟩ = some (.string x.n) ∧ W.cell? ⟨bx, 1, none⟩ = some (.int .i64 x.t) ∧ W.cell? ⟨bx, 2, none⟩ = some (.int .i64 x.h) ∧ W.cell? ⟨bx, 3, none⟩ = some (.int .i64 x.e) ∧ W.cell? ⟨bx, 4, none⟩ = some (.slice ua x.ws.length uc)) (first | exact (HL.out _ _ (by first | assumption | exact kdrew (by assumption) | exact Kp.alloc (by assumption) _ | exact kdrew (Kp.alloc (by assumption) _) | exact Kp.alloc (kdrew (by assumption)) _)).1)
     (first
       | (go_simp; go_at_call 59; (with_reducible refine (num4 (x.e) _).mono ?_); rintro e wn ⟨vnf1, rfl, f1, bn⟩; obtain ⟨on, kn, h1⟩ := call_all bn (by first | assumption | exact own_drew (by assumption) | exact own_alloc (by assumption) _ | exact own_drew (own_alloc (by assumption) _) | exact own_alloc (own_drew (by assumption)) _) (by first | assumption | exact kdrew (by assumption) | exact Kp.alloc (by assumption) _ | exact kdrew (Kp.alloc (by assumption) _) | exact Kp.alloc (kdrew (by assumption)) _); (first | (have fb := own_below (own_one 5 _ _ _ (Nat.le_refl _)) bn; have hb := own_lt o1) | (have fb := own_below (own_drew (own_one 5 _ _ _ (Nat.le_refl _))) bn; have hb := own_lt o1) | skip); clear bn; try go_simp)
       | (refine step_row (by rfl) _ _ 22 (by rfl) Tryd.underlying22 hi hz0 hz1 hz2 B _ _ _ _ _ (by rfl) (by rfl) (by first | assumption | exact own_drew (by assumption) | exact own_alloc (by assumption) _ | exact own_drew (own_alloc (by assumption) _) | exact own_alloc (own_drew (by assumption)) _) (ble HB0.out (by first | assumption | exact kdrew (by assumption) | exact Kp.alloc (by assumption) _ | exact kdrew (Kp.alloc (by assumption) _) | exact Kp.alloc (kdrew (by assumption)) _)) (by first | exact own_rowB f1 (nums_range _ _ _) | exact own_rowB (own_alloc f1 _) (nums_range _ _ _)) (by have := HLN.out; have := HXB.out; first | (simp; omega) | (simp [nums_length]; omega)) ?_; intro v8 w8 o8 k8x; have k8 := Kp.trans (by first | assumption | exact kdrew (by assumption) | exact Kp.alloc (by assumption) _ | exact kdrew (Kp.alloc (by assumption) _) | exact Kp.alloc (kdrew (by assumption)) _) k8x; (first | (have fb := own_kp fb k8x hb) | (have fb := own_kp (own_one 5 _ _ _ (Nat.le_refl _)) k8x (own_lt (by first | assumption | exact own_drew (by assumption) | exact own_alloc (by assumption) _ | exact own_drew (own_alloc (by assumption) _) | exact own_alloc (own_drew (by assumption)) _))) | skip); try go_simp)
       | (refine step_row (by rfl) _ _ 22 (by rfl) Tryd.underlying22 hi hz0 hz1 hz2 B _ _ _ _ _ (by rfl) (by rfl) (by first | assumption | exact own_drew (by assumption) | exact own_alloc (by assumption) _ | exact own_drew (own_alloc (by assumption) _) | exact own_alloc (own_drew (by assumption)) _) (ble HB0.out (by first | assumption | exact kdrew (by assumption) | exact Kp.alloc (by assumption) _ | exact kdrew (Kp.alloc (by assumption) _) | exact Kp.alloc (kdrew (by assumption)) _)) (by first | exact own_rowB fb (one_range (wrap_range _)) | exact own_rowB (own_one 5 _ _ _ (Nat.le_refl _)) (one_range (wrap_range _)) | exact rowB_drew (own_rowB (own_one 5 _ _ _ (Nat.le_refl _)) (one_range (wrap_range _))) | exact own_rowB (own_drew (own_one 5 _ _ _ (Nat.le_refl _))) (one_range (wrap_range _))) (by have := HLN.out; have := HXB.out; first | (simp; omega) | (simp [nums_length]; omega)) ?_; intro v9 w9 o9 k9x; have k9 := Kp.trans (by first | assumption | exact kdrew (by assumption) | exact Kp.alloc (by assumption) _ | exact kdrew (Kp.alloc (by assumption) _) | exact Kp.alloc (kdrew (by assumption)) _) k9x; try go_simp))
    all_goals
     rw [wrap1] at o9
     go_wp2_with fail
     go_meet
     exact ⟨rfl, o9, k9⟩
   case rest =>
   clear o1 k1
   obtain ⟨rfl, o1, k1⟩ := hcut
   obtain ⟨w3, rfl⟩ : ∃ w3, w3 = wc := ⟨_, rfl⟩
   obtain ⟨v3, rfl⟩ : ∃ v3, v3 = u3 := ⟨_, rfl⟩
   obtain ⟨z3, HZ3⟩ : ∃ z3, Hid (z2 ++ nums x.e 4 4 ++ nums (x.ws.length : Int) 1 1 = z3) := ⟨_, rfl⟩
   rw [HZ3.out] at o1
   have HLN : Hid (z3.length ≤ 1300) := by show _ ≤ _; rw [← HZ3.out]; simp only [List.length_append, nums_length]; have := HLN.out; omega
   have hw4 : x.ws.length ≤ 4 := HXB.out.2
   have HO3 : Hid (OwnB 5 w3 B v3 z3 ∧ Kp w0 w3 v0 v3) := ⟨o1, k1⟩
   obtain ⟨⟨q0, q1, q2, q3, q4⟩, _⟩ := HL.out _ _ k1
   clear o1 k1 O0
   go_wp2_with fail
   clear q0 q1 q2 q3 q4
   go_loopw [3, 6] (fun b i wr => ∃ m : Nat, m ≤ x.ws.length ∧ i = .int .i64 m ∧ Hid (OwnB 5 wr B b (z3 ++ wsBs (x.ws.take m)) ∧ Kp w0 wr v0 b)) (fun _ i _ => x.ws.length - (intOf i).toNat)
   case atStart => exact ⟨0, by omega, rfl, ⟨by simpa [wsBs] using HO3.out.1, HO3.out.2⟩⟩
   case round =>
    rename World => wi
    clear HO3
    obtain ⟨m, hm, rfl, HM⟩ := hrel
    obtain ⟨v4, rfl⟩ : ∃ v4, v4 = u3 := ⟨_, rfl⟩
    obtain ⟨⟨q0, q1, q2, q3, q4⟩, q5, hrw, _⟩ := HL.out _ _ HM.out.2
    by_cases hlt2 : m < x.ws.length
    ·obtain ⟨z, hz⟩ := Tw.get_at hlt2
     obtain ⟨b2, off2, rfl, _, hb2, _, _⟩ := RowG.at hrw rfl hz
     have HT2 : Hid (wsBs (x.ws.take (m + 1)) = wsBs (x.ws.take m) ++ wtBs z) := take_bs wtBs hz
     have HL2 : Hid (∀ W v', Kp w0 W v0 v' → (W.cell? ⟨bx, 4, none⟩ = some (.slice (some ⟨b2, off2, none⟩) x.ws.length uc) ∧ W.cell? ⟨b2, off2 + m * 2, none⟩ = some (.int .i64 z.c) ∧ W.cell? ⟨b2, off2 + m * 2 + 1, none⟩ = some (.int .i64 z.l))) := fun W v' h => by
      obtain ⟨⟨_, _, _, _, p4⟩, _, pr, _⟩ := HL.out W v' h
      obtain ⟨b', off', e, _, _, d0, d1⟩ := RowG.at pr rfl hz
      cases e
      exact ⟨p4, d0, d1⟩
     obtain ⟨z4, HZ4⟩ : ∃ z4, Hid (z3 ++ wsBs (x.ws.take m) = z4) := ⟨_, rfl⟩
     have HLN : Hid (z4.length ≤ 1400) := by show _ ≤ _; rw [← HZ4.out, List.length_append, wsBs_len, List.length_take]; have := HLN.out; have := HXB.out; omega
     have o1 := HM.out.1
     have k1 := HM.out.2
     rw [HZ4.out] at o1
     have l1 : (0 : Int) ≤ (m : Int) := by omega
     have l2 : (m : Int) < (x.ws.length : Int) := by omega
     clear hz hrw q0 q1 q2 q3 HM
     go_upto_region 13 with fail
     clear q4 q5
     go_region_held_law (fun W => W.cell? ⟨bx, 4, none⟩ = some (.slice (some ⟨b2, off2, none⟩) x.ws.length uc) ∧ W.cell? ⟨b2, off2 + m * 2, none⟩ = some (.int .i64 z.c) ∧ W.cell? ⟨b2, off2 + m * 2 + 1, none⟩ = some (.int .i64 z.l)) (first | exact (HL2.out _ _ (by first | assumption | exact kdrew (by assumption) | exact Kp.alloc (by assumption) _ | exact kdrew (Kp.alloc (by assumption) _) | exact Kp.alloc (kdrew (by assumption)) _)))
      (first
        | (go_simp; go_at_call 59; (with_reducible refine (num2 (z.l) _).mono ?_); rintro e wn ⟨vnf1, rfl, f1, bn⟩; obtain ⟨on, kn, h1⟩ := call_all bn (by first | assumption | exact own_drew (by assumption) | exact own_alloc (by assumption) _ | exact own_drew (own_alloc (by assumption) _) | exact own_alloc (own_drew (by assumption)) _) (by first | assumption | exact kdrew (by assumption) | exact Kp.alloc (by assumption) _ | exact kdrew (Kp.alloc (by assumption) _) | exact Kp.alloc (kdrew (by assumption)) _); (first | (have fb := own_below (own_one 5 _ _ _ (Nat.le_refl _)) bn; have hb := own_lt o1) | (have fb := own_below (own_drew (own_one 5 _ _ _ (Nat.le_refl _))) bn; have hb := own_lt o1) | skip); clear bn; try go_simp)
        | (refine step_row (by rfl) _ _ 22 (by rfl) Tryd.underlying22 hi hz0 hz1 hz2 B _ _ _ _ _ (by rfl) (by rfl) (by first | assumption | exact own_drew (by assumption) | exact own_alloc (by assumption) _ | exact own_drew (own_alloc (by assumption) _) | exact own_alloc (own_drew (by assumption)) _) (ble HB0.out (by first | assumption | exact kdrew (by assumption) | exact Kp.alloc (by assumption) _ | exact kdrew (Kp.alloc (by assumption) _) | exact Kp.alloc (kdrew (by assumption)) _)) (by first | exact own_rowB fb (one_range (wrap_range _)) | exact own_rowB (own_one 5 _ _ _ (Nat.le_refl _)) (one_range (wrap_range _)) | exact rowB_drew (own_rowB (own_one 5 _ _ _ (Nat.le_refl _)) (one_range (wrap_range _))) | exact own_rowB (own_drew (own_one 5 _ _ _ (Nat.le_refl _))) (one_range (wrap_range _))) (by have := HLN.out; have := HXB.out; first | (simp; omega) | (simp [nums_length]; omega)) ?_; intro v8 w8 o8 k8x; have k8 := Kp.trans (by first | assumption | exact kdrew (by assumption) | exact Kp.alloc (by assumption) _ | exact kdrew (Kp.alloc (by assumption) _) | exact Kp.alloc (kdrew (by assumption)) _) k8x; (first | (have f1 := own_kp f1 k8x h1) | (have f1 := own_kp (own_alloc f1 _) k8x h1) | skip); try go_simp)
        | (refine step_row (by rfl) _ _ 22 (by rfl) Tryd.underlying22 hi hz0 hz1 hz2 B _ _ _ _ _ (by rfl) (by rfl) (by first | assumption | exact own_drew (by assumption) | exact own_alloc (by assumption) _ | exact own_drew (own_alloc (by assumption) _) | exact own_alloc (own_drew (by assumption)) _) (ble HB0.out (by first | assumption | exact kdrew (by assumption) | exact Kp.alloc (by assumption) _ | exact kdrew (Kp.alloc (by assumption) _) | exact Kp.alloc (kdrew (by assumption)) _)) (by first | exact own_rowB f1 (nums_range _ _ _) | exact own_rowB (own_alloc f1 _) (nums_range _ _ _)) (by have := HLN.out; have := HXB.out; first | (simp; omega) | (simp [nums_length]; omega)) ?_; intro v9 w9 o9 k9x; have k9 := Kp.trans (by first | assumption | exact kdrew (by assumption) | exact Kp.alloc (by assumption) _ | exact kdrew (Kp.alloc (by assumption) _) | exact Kp.alloc (kdrew (by assumption)) _) k9x; try go_simp))
     all_goals
      rw [wrap1] at o9
      have O9 : Hid (OwnB 5 w9 B v9 (z3 ++ wsBs (x.ws.take (m + 1))) ∧ Kp w0 w9 v0 v9) := ⟨by rw [HT2.out, ← List.append_assoc, HZ4.out]; unfold wtBs; rw [← List.append_assoc]; exact o9, k9⟩
      clear o9 k9
      go_wp2_with fail
      first
       | exact ⟨⟨m + 1, by omega, by go_num, O9⟩, by simp [intOf]; omega⟩
       | (go_roundw
          case rel => (repeat apply Exists.intro); exact ⟨⟨m + 1, by omega, by go_num, O9⟩, rfl⟩
          case measure => simp [intOf]; omega)
    ·obtain rfl : m = x.ws.length := by omega
     have HE : Hid (z3 ++ wsBs (x.ws.take x.ws.length) = ys ++ lsBs (ls.take (k + 1))) := by
      show _ = _
      rw [List.take_length, HT.out, ← HZ3.out, ← HZ2.out, ← HZ1.out, ← HZS.out]
      unfold lkBs
      simp [List.append_assoc]
     have HFO : Hid (OwnB 5 wi B v4 (ys ++ lsBs (ls.take (k + 1))) ∧ Below B wb wi) := ⟨by rw [← HE.out]; exact HM.out.1, (HL.out _ _ HM.out.2).2.2.2⟩
     clear hrw HM
     go_wp2_with fail
     first
      | exact ⟨⟨k + 1, by omega, by go_num, HFO⟩, by simp [intOf]; omega⟩
      | (go_roundw
         case rel => (repeat apply Exists.intro); exact ⟨⟨k + 1, by omega, by go_num, HFO⟩, rfl⟩
         case measure => simp [intOf]; omega)
  ·obtain rfl : k = ls.length := by omega
   rw [List.take_length] at HO
   have HLN : Hid ((ys ++ lsBs ls).length ≤ 1000) := by
    show _ ≤ _
    have h1 := lsBs_le ls (fun x hx => ⟨(HBD.out.2.2.1 x hx).1, (HBD.out.2.2.1 x hx).2.1⟩)
    have h2 := HBD.out.1
    rw [List.length_append, HYL.out]
    omega
   have hsr : (0 : Int) ≤ (ss.length : Int) ∧ (ss.length : Int) ≤ 255 := by have := HBD.out.2.1; omega
   clear hrl
   go_wp2_with (at_builtin; go_must (refine list_one (by rfl) _ _ 22 (by rfl) Tryd.underlying22 hi hz0 hz1 hz2 B _ _ _ _ (by rfl) (by rfl) HO.out.1 (Nat.le_trans HBL.out HO.out.2.size) hsr (by have := HLN.out; omega) ?_; intro v5 w5 o5 k5))
   have B5 := HO.out.2.trans (k5.below HO.out.1 (Nat.le_trans HBL.out HO.out.2.size))
   obtain ⟨zt, HZT⟩ : ∃ zt, Hid (ys ++ lsBs ls ++ nums (ss.length : Int) 1 1 = zt) := ⟨_, rfl⟩
   have HZL : Hid (zt.length ≤ 1001) := by show _ ≤ _; rw [← HZT.out, List.length_append, nums_length]; have := HLN.out; omega
   rw [one_num hsr, HZT.out] at o5
   have O5 : Hid (OwnB 5 w5 B v5 zt ∧ Below B wb w5) := ⟨o5, B5⟩
   clear o5 k5 B5 HO hsr x0 x1 x2 x3 HLN
   obtain ⟨⟨x0, x1, x2, x3⟩, _⟩ := HX.out _ O5.out.2
   go_wp2_with fail
   clear x0 x1 x2 x3
   go_loopw [3, 7] (fun b i wr => ∃ k : Nat, k ≤ ss.length ∧ i = .int .i64 k ∧ Hid (OwnB 5 wr B b (zt ++ ssBs (ss.take k)) ∧ Below B wb wr)) (fun _ i _ => ss.length - (intOf i).toNat)
   case atStart => exact ⟨0, by omega, rfl, ⟨by simpa [ssBs] using O5.out.1, O5.out.2⟩⟩
   case round =>
    rename World => wi
    clear O5
    obtain ⟨k, hk, rfl, HO⟩ := hrel
    obtain ⟨v0, rfl⟩ : ∃ v0, v0 = u3 := ⟨_, rfl⟩
    obtain ⟨⟨x0, x1, x2, x3⟩, _, hrs, hbw⟩ := HX.out _ HO.out.2
    by_cases hlt : k < ss.length
    ·obtain ⟨x, hx⟩ := Tw.get_at hlt
     obtain ⟨b, off, rfl, hbl, hbB, c0, c1, c2, c3, c4, c5⟩ := RowG.at hrs rfl hx
     have HT : Hid (ssBs (ss.take (k + 1)) = ssBs (ss.take k) ++ snBs x) := take_bs snBs hx
     have hh1 := HBD.out.2.2.2 x (mem_at hx)
     have hwr : IntKind.i64.wrap (x.h + 1) = x.h + 1 := by rw [IntKind.wrap_i64]; omega
     have HXB : Hid (True) := trivial
     obtain ⟨zs, HZS⟩ : ∃ zs, Hid (zt ++ ssBs (ss.take k) = zs) := ⟨_, rfl⟩
     have HLN : Hid (zs.length ≤ 1100) := by
      show _ ≤ _
      have h2 := HBD.out.2.1
      have h3 := HZL.out
      rw [← HZS.out, List.length_append, ssBs_len, List.length_take]
      omega
     rw [HZS.out] at HO
     obtain ⟨bx, HBX⟩ : ∃ bx, Hid (wi.heap.size = bx) := ⟨_, rfl⟩
     have O0 : Hid (OwnB 5 (wi.alloc (.cells #[.int .i64 x.c, .int .i64 x.s, .int .i64 x.k, .int .i64 x.t, .int .i64 x.h, .int .i64 x.e] 57)) B v0 zs ∧ B ≤ (wi.alloc (.cells #[.int .i64 x.c, .int .i64 x.s, .int .i64 x.k, .int .i64 x.t, .int .i64 x.h, .int .i64 x.e] 57)).heap.size) := ⟨own_alloc HO.out.1 _, Nat.le_trans (Nat.le_trans HBL.out HO.out.2.size) (by simp)⟩
     have HL : Hid (∀ W v', Kp (wi.alloc (.cells #[.int .i64 x.c, .int .i64 x.s, .int .i64 x.k, .int .i64 x.t, .int .i64 x.h, .int .i64 x.e] 57)) W v0 v' → (W.cell? ⟨bx, 0, none⟩ = some (.int .i64 x.c) ∧ W.cell? ⟨bx, 1, none⟩ = some (.int .i64 x.s) ∧ W.cell? ⟨bx, 2, none⟩ = some (.int .i64 x.k) ∧ W.cell? ⟨bx, 3, none⟩ = some (.int .i64 x.t) ∧ W.cell? ⟨bx, 4, none⟩ = some (.int .i64 x.h) ∧ W.cell? ⟨bx, 5, none⟩ = some (.int .i64 x.e)) ∧ Below B wb W) := fun W v' h => by
      have h1 := box_kept h (own_away HO.out.1)
      rw [HBX.out] at h1
      have h2 := h.below O0.out.1 O0.out.2
      have h3 : Below B wi (wi.alloc (.cells #[.int .i64 x.c, .int .i64 x.s, .int .i64 x.k, .int .i64 x.t, .int .i64 x.h, .int .i64 x.e] 57)) := (bel_new wi _).mono (Nat.le_trans HBL.out HO.out.2.size)
      exact ⟨⟨(blk_cell h1 0 rfl).1, (blk_cell h1 1 rfl).1, (blk_cell h1 2 rfl).1, (blk_cell h1 3 rfl).1, (blk_cell h1 4 rfl).1, (blk_cell h1 5 rfl).1⟩, HO.out.2.trans (h3.trans h2)⟩
     clear hx hrs hbw HO
     go_upto_region 19 with fail
     clear c0 c1 c2 c3 c4 c5 x0 x1 x2 x3
     generalize wi.alloc (.cells #[.int .i64 x.c, .int .i64 x.s, .int .i64 x.k, .int .i64 x.t, .int .i64 x.h, .int .i64 x.e] 57) = w0 at HL O0 ⊢
     rw [HBX.out]
     have HB0 : Hid (B ≤ w0.heap.size) := O0.out.2
     go_cut [3, 8] (fun s3 s8 wx => s8 = .pointer (some ⟨bx, 0, none⟩) ∧ OwnB 5 wx B s3 (zs ++ nums x.c 1 1 ++ nums x.s 2 2) ∧ Kp w0 wx v0 s3)
     case first =>
      have o1 := O0.out.1
      have k1 := Kp.refl w0 v0
      go_region_held_law (fun W => W.cell? ⟨bx, 0, none⟩ = some (.int .i64 x.c) ∧ W.cell? ⟨bx, 1, none⟩ = some (.int .i64 x.s) ∧ W.cell? ⟨bx, 2, none⟩ = some (.int .i64 x.k) ∧ W.cell? ⟨bx, 3, none⟩ = some (.int .i64 x.t) ∧ W.cell? ⟨bx, 4, none⟩ = some (.int .i64 x.h) ∧ W.cell? ⟨bx, 5, none⟩ = some (.int .i64 x.e)) (first | exact (HL.out _ _ (by first | assumption | exact kdrew (by assumption) | exact Kp.alloc (by assumption) _ | exact kdrew (Kp.alloc (by assumption) _) | exact Kp.alloc (kdrew (by assumption)) _)).1)
       (first
         | (go_simp; go_at_call 59; (with_reducible refine (num2 (x.s) _).mono ?_); rintro e wn ⟨vnf1, rfl, f1, bn⟩; obtain ⟨on, kn, h1⟩ := call_all bn (by first | assumption | exact own_drew (by assumption) | exact own_alloc (by assumption) _ | exact own_drew (own_alloc (by assumption) _) | exact own_alloc (own_drew (by assumption)) _) (by first | assumption | exact kdrew (by assumption) | exact Kp.alloc (by assumption) _ | exact kdrew (Kp.alloc (by assumption) _) | exact Kp.alloc (kdrew (by assumption)) _); (first | (have fb := own_below (own_one 5 _ _ _ (Nat.le_refl _)) bn; have hb := own_lt o1) | (have fb := own_below (own_drew (own_one 5 _ _ _ (Nat.le_refl _))) bn; have hb := own_lt o1) | skip); clear bn; try go_simp)
         | (refine step_row (by rfl) _ _ 22 (by rfl) Tryd.underlying22 hi hz0 hz1 hz2 B _ _ _ _ _ (by rfl) (by rfl) (by first | assumption | exact own_drew (by assumption) | exact own_alloc (by assumption) _ | exact own_drew (own_alloc (by assumption) _) | exact own_alloc (own_drew (by assumption)) _) (ble HB0.out (by first | assumption | exact kdrew (by assumption) | exact Kp.alloc (by assumption) _ | exact kdrew (Kp.alloc (by assumption) _) | exact Kp.alloc (kdrew (by assumption)) _)) (by first | exact own_rowB fb (one_range (wrap_range _)) | exact own_rowB (own_one 5 _ _ _ (Nat.le_refl _)) (one_range (wrap_range _)) | exact rowB_drew (own_rowB (own_one 5 _ _ _ (Nat.le_refl _)) (one_range (wrap_range _))) | exact own_rowB (own_drew (own_one 5 _ _ _ (Nat.le_refl _))) (one_range (wrap_range _))) (by have := HLN.out; have := HXB.out; first | (simp; omega) | (simp [nums_length]; omega)) ?_; intro v8 w8 o8 k8x; have k8 := Kp.trans (by first | assumption | exact kdrew (by assumption) | exact Kp.alloc (by assumption) _ | exact kdrew (Kp.alloc (by assumption) _) | exact Kp.alloc (kdrew (by assumption)) _) k8x; (first | (have f1 := own_kp f1 k8x h1) | (have f1 := own_kp (own_alloc f1 _) k8x h1) | skip); try go_simp)
         | (refine step_row (by rfl) _ _ 22 (by rfl) Tryd.underlying22 hi hz0 hz1 hz2 B _ _ _ _ _ (by rfl) (by rfl) (by first | assumption | exact own_drew (by assumption) | exact own_alloc (by assumption) _ | exact own_drew (own_alloc (by assumption) _) | exact own_alloc (own_drew (by assumption)) _) (ble HB0.out (by first | assumption | exact kdrew (by assumption) | exact Kp.alloc (by assumption) _ | exact kdrew (Kp.alloc (by assumption) _) | exact Kp.alloc (kdrew (by assumption)) _)) (by first | exact own_rowB f1 (nums_range _ _ _) | exact own_rowB (own_alloc f1 _) (nums_range _ _ _)) (by have := HLN.out; have := HXB.out; first | (simp; omega) | (simp [nums_length]; omega)) ?_; intro v9 w9 o9 k9x; have k9 := Kp.trans (by first | assumption | exact kdrew (by assumption) | exact Kp.alloc (by assumption) _ | exact kdrew (Kp.alloc (by assumption) _) | exact Kp.alloc (kdrew (by assumption)) _) k9x; try go_simp))
      all_goals
       rw [wrap1] at o9
       go_wp2_with fail
       go_meet
       exact ⟨rfl, o9, k9⟩
     case rest =>
     obtain ⟨rfl, o1, k1⟩ := hcut
     obtain ⟨w1, rfl⟩ : ∃ w1, w1 = wc := ⟨_, rfl⟩
     obtain ⟨v1, rfl⟩ : ∃ v1, v1 = u3 := ⟨_, rfl⟩
     obtain ⟨z1, HZ1⟩ : ∃ z1, Hid (zs ++ nums x.c 1 1 ++ nums x.s 2 2 = z1) := ⟨_, rfl⟩
     rw [HZ1.out] at o1
     have HLN : Hid (z1.length ≤ 1200) := by show _ ≤ _; rw [← HZ1.out]; simp only [List.length_append, nums_length]; have := HLN.out; omega
     go_upto_region 20 with fail
     go_cut [3, 8] (fun s3 s8 wx => s8 = .pointer (some ⟨bx, 0, none⟩) ∧ OwnB 5 wx B s3 (z1 ++ nums x.k 1 1 ++ nums x.t 3 3) ∧ Kp w0 wx v0 s3)
     case first =>
      go_region_held_law (fun W => W.cell? ⟨bx, 0, none⟩ = some (.int .i64 x.c) ∧ W.cell? ⟨bx, 1, none⟩ = some (.int .i64 x.s) ∧ W.cell? ⟨bx, 2, none⟩ = some (.int .i64 x.k) ∧ W.cell? ⟨bx, 3, none⟩ = some (.int .i64 x.t) ∧ W.cell? ⟨bx, 4, none⟩ = some (.int .i64 x.h) ∧ W.cell? ⟨bx, 5, none⟩ = some (.int .i64 x.e)) (first | exact (HL.out _ _ (by first | assumption | exact kdrew (by assumption) | exact Kp.alloc (by assumption) _ | exact kdrew (Kp.alloc (by assumption) _) | exact Kp.alloc (kdrew (by assumption)) _)).1)
       (first
         | (go_simp; go_at_call 59; (with_reducible refine (num3 (x.t) _).mono ?_); rintro e wn ⟨vnf1, rfl, f1, bn⟩; obtain ⟨on, kn, h1⟩ := call_all bn (by first | assumption | exact own_drew (by assumption) | exact own_alloc (by assumption) _ | exact own_drew (own_alloc (by assumption) _) | exact own_alloc (own_drew (by assumption)) _) (by first | assumption | exact kdrew (by assumption) | exact Kp.alloc (by assumption) _ | exact kdrew (Kp.alloc (by assumption) _) | exact Kp.alloc (kdrew (by assumption)) _); (first | (have fb := own_below (own_one 5 _ _ _ (Nat.le_refl _)) bn; have hb := own_lt o1) | (have fb := own_below (own_drew (own_one 5 _ _ _ (Nat.le_refl _))) bn; have hb := own_lt o1) | skip); clear bn; try go_simp)
         | (refine step_row (by rfl) _ _ 22 (by rfl) Tryd.underlying22 hi hz0 hz1 hz2 B _ _ _ _ _ (by rfl) (by rfl) (by first | assumption | exact own_drew (by assumption) | exact own_alloc (by assumption) _ | exact own_drew (own_alloc (by assumption) _) | exact own_alloc (own_drew (by assumption)) _) (ble HB0.out (by first | assumption | exact kdrew (by assumption) | exact Kp.alloc (by assumption) _ | exact kdrew (Kp.alloc (by assumption) _) | exact Kp.alloc (kdrew (by assumption)) _)) (by first | exact own_rowB fb (one_range (wrap_range _)) | exact own_rowB (own_one 5 _ _ _ (Nat.le_refl _)) (one_range (wrap_range _)) | exact rowB_drew (own_rowB (own_one 5 _ _ _ (Nat.le_refl _)) (one_range (wrap_range _))) | exact own_rowB (own_drew (own_one 5 _ _ _ (Nat.le_refl _))) (one_range (wrap_range _))) (by have := HLN.out; have := HXB.out; first | (simp; omega) | (simp [nums_length]; omega)) ?_; intro v8 w8 o8 k8x; have k8 := Kp.trans (by first | assumption | exact kdrew (by assumption) | exact Kp.alloc (by assumption) _ | exact kdrew (Kp.alloc (by assumption) _) | exact Kp.alloc (kdrew (by assumption)) _) k8x; (first | (have f1 := own_kp f1 k8x h1) | (have f1 := own_kp (own_alloc f1 _) k8x h1) | skip); try go_simp)
         | (refine step_row (by rfl) _ _ 22 (by rfl) Tryd.underlying22 hi hz0 hz1 hz2 B _ _ _ _ _ (by rfl) (by rfl) (by first | assumption | exact own_drew (by assumption) | exact own_alloc (by assumption) _ | exact own_drew (own_alloc (by assumption) _) | exact own_alloc (own_drew (by assumption)) _) (ble HB0.out (by first | assumption | exact kdrew (by assumption) | exact Kp.alloc (by assumption) _ | exact kdrew (Kp.alloc (by assumption) _) | exact Kp.alloc (kdrew (by assumption)) _)) (by first | exact own_rowB f1 (nums_range _ _ _) | exact own_rowB (own_alloc f1 _) (nums_range _ _ _)) (by have := HLN.out; have := HXB.out; first | (simp; omega) | (simp [nums_length]; omega)) ?_; intro v9 w9 o9 k9x; have k9 := Kp.trans (by first | assumption | exact kdrew (by assumption) | exact Kp.alloc (by assumption) _ | exact kdrew (Kp.alloc (by assumption) _) | exact Kp.alloc (kdrew (by assumption)) _) k9x; try go_simp))
      all_goals
       rw [wrap1] at o9
       go_wp2_with fail
       go_meet
       exact ⟨rfl, o9, k9⟩
     case rest =>
     clear o1 k1
     obtain ⟨rfl, o1, k1⟩ := hcut
     obtain ⟨w2, rfl⟩ : ∃ w2, w2 = wc := ⟨_, rfl⟩
     obtain ⟨v2, rfl⟩ : ∃ v2, v2 = u3 := ⟨_, rfl⟩
     obtain ⟨z2, HZ2⟩ : ∃ z2, Hid (z1 ++ nums x.k 1 1 ++ nums x.t 3 3 = z2) := ⟨_, rfl⟩
     rw [HZ2.out] at o1
     have HLN : Hid (z2.length ≤ 1300) := by show _ ≤ _; rw [← HZ2.out]; simp only [List.length_append, nums_length]; have := HLN.out; omega
     go_upto_region 21 with fail
     go_region_held_law (fun W => W.cell? ⟨bx, 0, none⟩ = some (.int .i64 x.c) ∧ W.cell? ⟨bx, 1, none⟩ = some (.int .i64 x.s) ∧ W.cell? ⟨bx, 2, none⟩ = some (.int .i64 x.k) ∧ W.cell? ⟨bx, 3, none⟩ = some (.int .i64 x.t) ∧ W.cell? ⟨bx, 4, none⟩ = some (.int .i64 x.h) ∧ W.cell? ⟨bx, 5, none⟩ = some (.int .i64 x.e)) (first | exact (HL.out _ _ (by first | assumption | exact kdrew (by assumption) | exact Kp.alloc (by assumption) _ | exact kdrew (Kp.alloc (by assumption) _) | exact Kp.alloc (kdrew (by assumption)) _)).1)
      (first
        | (go_simp; go_at_call 59; (with_reducible refine (num2 (x.h + 1) _).mono ?_); rintro e wn ⟨vnf1, rfl, f1, bn⟩; obtain ⟨on, kn, h1⟩ := call_all bn (by first | assumption | exact own_drew (by assumption) | exact own_alloc (by assumption) _ | exact own_drew (own_alloc (by assumption) _) | exact own_alloc (own_drew (by assumption)) _) (by first | assumption | exact kdrew (by assumption) | exact Kp.alloc (by assumption) _ | exact kdrew (Kp.alloc (by assumption) _) | exact Kp.alloc (kdrew (by assumption)) _); clear bn; try go_simp)
        | (go_simp; go_at_call 59; (with_reducible refine (num4 (x.e) _).mono ?_); rintro e wn ⟨vnf2, rfl, f2, bn⟩; obtain ⟨on, kn, h2⟩ := call_all bn (by first | assumption | exact own_drew (by assumption) | exact own_alloc (by assumption) _ | exact own_drew (own_alloc (by assumption) _) | exact own_alloc (own_drew (by assumption)) _) (by first | assumption | exact kdrew (by assumption) | exact Kp.alloc (by assumption) _ | exact kdrew (Kp.alloc (by assumption) _) | exact Kp.alloc (kdrew (by assumption)) _); (first | (have f1 := own_below f1 bn) | skip); clear bn; try go_simp)
        | (refine step_row (by rfl) _ _ 22 (by rfl) Tryd.underlying22 hi hz0 hz1 hz2 B _ _ _ _ _ (by rfl) (by rfl) (by first | assumption | exact own_drew (by assumption) | exact own_alloc (by assumption) _ | exact own_drew (own_alloc (by assumption) _) | exact own_alloc (own_drew (by assumption)) _) (ble HB0.out (by first | assumption | exact kdrew (by assumption) | exact Kp.alloc (by assumption) _ | exact kdrew (Kp.alloc (by assumption) _) | exact Kp.alloc (kdrew (by assumption)) _)) (by first | exact own_rowB f1 (nums_range _ _ _) | exact own_rowB (own_alloc f1 _) (nums_range _ _ _)) (by have := HLN.out; have := HXB.out; first | (simp; omega) | (simp [nums_length]; omega)) ?_; intro v8 w8 o8 k8x; have k8 := Kp.trans (by first | assumption | exact kdrew (by assumption) | exact Kp.alloc (by assumption) _ | exact kdrew (Kp.alloc (by assumption) _) | exact Kp.alloc (kdrew (by assumption)) _) k8x; (first | (have f2 := own_kp f2 k8x h2) | (have f2 := own_kp (own_alloc f2 _) k8x h2) | skip); try go_simp)
        | (refine step_row (by rfl) _ _ 22 (by rfl) Tryd.underlying22 hi hz0 hz1 hz2 B _ _ _ _ _ (by rfl) (by rfl) (by first | assumption | exact own_drew (by assumption) | exact own_alloc (by assumption) _ | exact own_drew (own_alloc (by assumption) _) | exact own_alloc (own_drew (by assumption)) _) (ble HB0.out (by first | assumption | exact kdrew (by assumption) | exact Kp.alloc (by assumption) _ | exact kdrew (Kp.alloc (by assumption) _) | exact Kp.alloc (kdrew (by assumption)) _)) (by first | exact own_rowB f2 (nums_range _ _ _) | exact own_rowB (own_alloc f2 _) (nums_range _ _ _)) (by have := HLN.out; have := HXB.out; first | (simp; omega) | (simp [nums_length]; omega)) ?_; intro v9 w9 o9 k9x; have k9 := Kp.trans (by first | assumption | exact kdrew (by assumption) | exact Kp.alloc (by assumption) _ | exact kdrew (Kp.alloc (by assumption) _) | exact Kp.alloc (kdrew (by assumption)) _) k9x; try go_simp))
     all_goals
      have HFO : Hid (OwnB 5 w9 B v9 (zt ++ ssBs (ss.take (k + 1))) ∧ Below B wb w9) := ⟨by rw [HT.out, ← List.append_assoc, HZS.out]; unfold snBs; rw [← HZ2.out, ← HZ1.out] at o9; simpa [List.append_assoc] using o9, (HL.out _ _ k9).2⟩
      clear o9 k9
      go_wp2_with fail
      first
       | exact ⟨⟨k + 1, by omega, by go_num, HFO⟩, by simp [intOf]; omega⟩
       | (go_roundw
          case rel => (repeat apply Exists.intro); exact ⟨⟨k + 1, by omega, by go_num, HFO⟩, rfl⟩
          case measure => simp [intOf]; omega)
    ·obtain rfl : k = ss.length := by omega
     rw [List.take_length] at HO
     have HE : Hid (zt ++ ssBs ss = tabBs tm nx ls ss) := by show _ = _; rw [← HZT.out, ← HYS.out]; unfold tabBs; simp [List.append_assoc]
     have HFB : Hid (Below w.heap.size w wi ∧ OwnB 5 wi w.heap.size v0 (tabBs tm nx ls ss)) := ⟨hbw, by rw [← HE.out]; exact own_le HO.out.1 (by rw [HB.out]; exact HSZ.out)⟩
     clear hrs hbw HO
     go_wp2_with fail
     go_ret
     exact ⟨_, rfl, HFB.out.2, HFB.out.1⟩
end Go.Proofs.YtakfniknkejgpaaDoor.Ps
