/- Texts put together: Tr, Put, Pt. -/
import Derived.Test.YtakfniknkejgpaaDoorMp6
import Derived.Test.YtakfniknkejgpaaDoorMp2
import Derived.Test.YtakfniknkejgpaaDoorMp1
import Derived.Test.YtakfniknkejgpaaDoorRows
/- TableOK of the program. -/
namespace Go.Proofs.YtakfniknkejgpaaDoor.Tp
open Go.RowKit Go.Proofs.YtakfniknkejgpaaDoor.Sl Go.Proofs.YtakfniknkejgpaaDoor.Ap Go.Proofs.YtakfniknkejgpaaDoor.Tx Go.Proofs.YtakfniknkejgpaaDoor.Tb Go.Proofs.YtakfniknkejgpaaDoor.Tw Go.Proofs.YtakfniknkejgpaaDoor.Rq

end Go.Proofs.YtakfniknkejgpaaDoor.Tp

/- Bytes that are told: numbers, texts. -/
namespace Go.Proofs.YtakfniknkejgpaaDoor.Pu
open Go.RowKit Go.Proofs.YtakfniknkejgpaaDoor.Sl Go.Proofs.YtakfniknkejgpaaDoor.By Go.Proofs.YtakfniknkejgpaaDoor.Ap

def nb (v : Int) (at' : Nat) : Int := v / 2 ^ (8 * at') % 256
def nums (v : Int) (size k : Nat) : List Int := (List.range k).map fun j => nb v (size - 1 - j)
theorem nums_succ (v : Int) (size k : Nat) : nums v size (k + 1) = nums v size k ++ [nb v (size - 1 - k)] := by simp [nums, List.range_succ]
theorem nums_length (v : Int) (size k : Nat) : (nums v size k).length = k := by simp [nums]

theorem nb_range (v : Int) (k : Nat) : 0 ≤ nb v k ∧ nb v k ≤ 255 := by unfold nb; omega
theorem nums_range (v : Int) (size k : Nat) : ∀ z ∈ nums v size k, 0 ≤ z ∧ z ≤ 255 := by
 intro z hz
 unfold nums at hz
 obtain ⟨j, _, rfl⟩ := List.mem_map.1 hz
 exact nb_range _ _
set_option maxHeartbeats 400000 in
theorem l02Number_any (x : Int) (size : Nat) (w : World) (hs : size ≤ 4) :
 Calls Tryd.prog 59 #[.int .i64 x, .int .i64 size] w fun e w' => ∃ v', e = .returned v' ∧ OwnB 5 w' w.heap.size v' (nums x size size) ∧ Below w.heap.size w w' := by
 obtain ⟨i0, hi, hz0, hz1, hz2⟩ := info_parts Sl.info5
 have hs0 : (size : Int) ≤ 4 := by omega
 have HS : Hid (size ≤ 4) := hs
 clear hs
 go_enter Tryd.func59, Tryd.ntmps59
 go_wp2_with fail
 go_loopw [5, 6] (fun b i wr => ∃ (k : Nat) (q : Int), Hid ((k : Int) + q + 1 = size ∧ k ≤ size) ∧ -1 ≤ q ∧ q ≤ 3 ∧ i = .int .i64 q ∧ OwnB 5 wr w.heap.size b (nums x size k) ∧ Below w.heap.size w wr) (fun _ i _ => (intOf i + 1).toNat)
 case atStart => exact ⟨0, (size : Int) - 1, ⟨by omega, by omega⟩, by omega, by omega, by go_num, own_made 5 w w.heap.size #[] 0 (Nat.le_refl _) (by simp [maxLen]) rfl, (Below.refl _ _).alloc (Nat.le_refl _) _⟩
 case round =>
  clear hs0
  obtain ⟨k, q, HQ, hq0, hq1, rfl, hown, hbel⟩ := hrel
  by_cases hlt : 0 ≤ q
  ·have hl : (nums x size k).length + 1 ≤ 140737488355328 := by rw [nums_length]; have := HQ.out; have := HS.out; omega
   have hB := hbel.size
   go_wp2_with (at_builtin; go_must (refine By.wpList_append_byte (by rfl) _ _ 22 (by rfl) 5 i0 Tryd.underlying22 hi hz0 hz1 hz2 w.heap.size w _ _ _ _ (by rfl) hown hbel hB (by rfl) hl ?_; intro v' w' hown' hbel' hB'))
   have e : x / 2 ^ (8 * q).toNat % 256 = nb x (size - 1 - k) := by
    unfold nb
    rw [show (8 * q).toNat = 8 * (size - 1 - k) by have := HQ.out; omega]
   rw [e, ← nums_succ] at hown'
   exact ⟨⟨k + 1, q - 1, ⟨by have := HQ.out; omega, by have := HQ.out; omega⟩, by omega, by omega, rfl, hown', hbel'⟩, by simp [intOf]; omega⟩
  ·have hk : k = size := by have := HQ.out; omega
   have HK : Hid (k = size) := hk
   clear hk
   go_wp2
   go_ret
   exact ⟨_, rfl, by rw [HK.out] at hown; exact hown, hbel⟩
end Go.Proofs.YtakfniknkejgpaaDoor.Pu

/- The bytes of tables: the program. -/
namespace Go.Proofs.YtakfniknkejgpaaDoor.Pt
open Go.RowKit Go.Proofs.YtakfniknkejgpaaDoor.Sl Go.Proofs.YtakfniknkejgpaaDoor.By Go.Proofs.YtakfniknkejgpaaDoor.Ap Go.Proofs.YtakfniknkejgpaaDoor.Tx Go.Proofs.YtakfniknkejgpaaDoor.Tb Go.Proofs.YtakfniknkejgpaaDoor.Tw Go.Proofs.YtakfniknkejgpaaDoor.Rq Go.Proofs.YtakfniknkejgpaaDoor.Tp Go.Proofs.YtakfniknkejgpaaDoor.Pu

def wtBs (x : Wt) : List Int := nums x.c 1 1 ++ nums x.l 2 2
def wsBs (ws : List Wt) : List Int := ws.flatMap wtBs
def lkBs (x : Lk) : List Int := nums (x.n.size : Int) 1 1 ++ (bys x.n ++ (nums x.t 3 3 ++ (nums (x.h + 1) 2 2 ++ (nums x.e 4 4 ++ (nums (x.ws.length : Int) 1 1 ++ wsBs x.ws)))))
def snBs (x : Sn) : List Int := nums x.c 1 1 ++ (nums x.s 2 2 ++ (nums x.k 1 1 ++ (nums x.t 3 3 ++ (nums (x.h + 1) 2 2 ++ nums x.e 4 4))))
def lsBs (ls : List Lk) : List Int := ls.flatMap lkBs
def ssBs (ss : List Sn) : List Int := ss.flatMap snBs
def tabBs (tm nx : Int) (ls : List Lk) (ss : List Sn) : List Int := nums tm 4 4 ++ (nums nx 3 3 ++ (nums (ls.length : Int) 1 1 ++ (lsBs ls ++ (nums (ss.length : Int) 1 1 ++ ssBs ss))))
theorem take_bs {α : Type} (f : α → List Int) {xs : List α} {k : Nat} {x : α} (h : xs[k]? = some x) : (xs.take (k + 1)).flatMap f = (xs.take k).flatMap f ++ f x := by
 rw [List.take_add_one, h, List.flatMap_append]
 simp
theorem wsBs_len (ws : List Wt) : (wsBs ws).length = 3 * ws.length := by
 unfold wsBs
 induction ws with
 | nil => rfl
 | cons a l ih => rw [List.flatMap_cons, List.length_append, ih]; unfold wtBs; rw [List.length_append, nums_length, nums_length, List.length_cons]; omega
theorem lkBs_len (x : Lk) : (lkBs x).length = 11 + x.n.size + 3 * x.ws.length := by unfold lkBs; simp only [List.length_append, nums_length, bys_length, wsBs_len]; omega
theorem snBs_len (x : Sn) : (snBs x).length = 13 := by unfold snBs; simp only [List.length_append, nums_length]
theorem lsBs_le : ∀ (ls : List Lk), (∀ x ∈ ls, x.n.size ≤ 12 ∧ x.ws.length ≤ 4) → (lsBs ls).length ≤ 35 * ls.length
 | [], _ => Nat.le_refl _
 | x :: l, h => by
   have := lsBs_le l fun y hy => h y (List.mem_cons_of_mem _ hy)
   have hx := h x (List.mem_cons_self ..)
   unfold lsBs at this ⊢
   rw [List.flatMap_cons, List.length_append, lkBs_len, List.length_cons]
   omega
theorem ssBs_len : ∀ (ss : List Sn), (ssBs ss).length = 13 * ss.length
 | [] => rfl
 | x :: l => by
   have := ssBs_len l
   unfold ssBs at this ⊢
   rw [List.flatMap_cons, List.length_append, snBs_len, List.length_cons]
   omega
theorem range_append {xs ys : List Int} (h : ∀ z ∈ xs, 0 ≤ z ∧ z ≤ 255) (g : ∀ z ∈ ys, 0 ≤ z ∧ z ≤ 255) : ∀ z ∈ xs ++ ys, 0 ≤ z ∧ z ≤ 255 := fun z hz => by
 rcases List.mem_append.1 hz with hz | hz
 ·exact h z hz
 ·exact g z hz
theorem flat_range {α : Type} {f : α → List Int} (h : ∀ x, ∀ z ∈ f x, 0 ≤ z ∧ z ≤ 255) (xs : List α) : ∀ z ∈ xs.flatMap f, 0 ≤ z ∧ z ≤ 255 := fun z hz => by
 obtain ⟨x, _, hx⟩ := List.mem_flatMap.1 hz
 exact h x z hx
theorem wsBs_range (ws : List Wt) : ∀ z ∈ wsBs ws, 0 ≤ z ∧ z ≤ 255 := flat_range (fun _ => range_append (nums_range _ _ _) (nums_range _ _ _)) ws
theorem lkBs_range (x : Lk) : ∀ z ∈ lkBs x, 0 ≤ z ∧ z ≤ 255 := range_append (nums_range _ _ _) (range_append (bys_range _) (range_append (nums_range _ _ _) (range_append (nums_range _ _ _) (range_append (nums_range _ _ _) (range_append (nums_range _ _ _) (wsBs_range _))))))
theorem snBs_range (x : Sn) : ∀ z ∈ snBs x, 0 ≤ z ∧ z ≤ 255 := range_append (nums_range _ _ _) (range_append (nums_range _ _ _) (range_append (nums_range _ _ _) (range_append (nums_range _ _ _) (range_append (nums_range _ _ _) (nums_range _ _ _)))))
theorem tabBs_range (tm nx : Int) (ls : List Lk) (ss : List Sn) : ∀ z ∈ tabBs tm nx ls ss, 0 ≤ z ∧ z ≤ 255 := range_append (nums_range _ _ _) (range_append (nums_range _ _ _) (range_append (nums_range _ _ _) (range_append (flat_range lkBs_range ls) (range_append (nums_range _ _ _) (flat_range snBs_range ss)))))

def EWB (B : Nat) (w : World) (b o : Nat) (x : Wt) : Prop := b < B ∧ EW w b o x
def ESB (B : Nat) (w : World) (b o : Nat) (x : Sn) : Prop := b < B ∧ ES w b o x
def ELB (B : Nat) (w : World) (b o : Nat) (x : Lk) : Prop := b < B ∧ ∃ u, w.cell? ⟨b, o, none⟩ = some (.string x.n) ∧ w.cell? ⟨b, o + 1, none⟩ = some (.int .i64 x.t) ∧ w.cell? ⟨b, o + 2, none⟩ = some (.int .i64 x.h) ∧ w.cell? ⟨b, o + 3, none⟩ = some (.int .i64 x.e) ∧ w.cell? ⟨b, o + 4, none⟩ = some u ∧ RowG 2 (EWB B) w u x.ws
theorem RowG.map {α : Type} {c : Nat} {E E' : World → Nat → Nat → α → Prop} {w w' : World} {v : Value} {xs : List α} (h : RowG c E w v xs) (hs : w.heap.size ≤ w'.heap.size) (hE : ∀ b o x, b < w.heap.size → E w b o x → E' w' b o x) : RowG c E' w' v xs := by
 obtain ⟨a, cap, rfl, h⟩ := h
 refine ⟨a, cap, rfl, ?_⟩
 rcases h with h | ⟨b, off, rfl, hc, hlt, h⟩
 ·exact .inl h
 ·exact .inr ⟨b, off, rfl, hc, Nat.lt_of_lt_of_le hlt hs, fun i x hi => hE _ _ _ hlt (h i x hi)⟩
def RowWB (B : Nat) (w : World) (v : Value) (xs : List Wt) : Prop := RowG 2 (EWB B) w v xs
def RowLB (B : Nat) (w : World) (v : Value) (xs : List Lk) : Prop := RowG 5 (ELB B) w v xs
def RowSB (B : Nat) (w : World) (v : Value) (xs : List Sn) : Prop := RowG 6 (ESB B) w v xs
theorem RowW.low {w : World} {v : Value} {xs : List Wt} (h : RowW w v xs) : RowWB w.heap.size w v xs := RowG.map h (Nat.le_refl _) fun _ _ _ hb he => ⟨hb, he⟩
theorem RowS.low {w : World} {v : Value} {xs : List Sn} (h : RowS w v xs) : RowSB w.heap.size w v xs := RowG.map h (Nat.le_refl _) fun _ _ _ hb he => ⟨hb, he⟩
theorem RowL.low {w : World} {v : Value} {xs : List Lk} (h : RowL w v xs) : RowLB w.heap.size w v xs := RowG.map h (Nat.le_refl _) fun _ _ _ hb ⟨u, h0, h1, h2, h3, h4, h5⟩ => ⟨hb, u, h0, h1, h2, h3, h4, RowW.low h5⟩
theorem ewb {B : Nat} {w w' : World} (hb : Below B w w') {b o : Nat} {x : Wt} (h : EWB B w b o x) : EWB B w' b o x := ⟨h.1, (hb.cell (p := ⟨b, _, none⟩) h.1).trans h.2.1, (hb.cell (p := ⟨b, _, none⟩) h.1).trans h.2.2⟩
theorem RowWB.below {B : Nat} {w w' : World} {v : Value} {xs : List Wt} (h : RowWB B w v xs) (hb : Below B w w') : RowWB B w' v xs := RowG.map h hb.size fun _ _ _ _ h => ewb hb h
theorem RowSB.below {B : Nat} {w w' : World} {v : Value} {xs : List Sn} (h : RowSB B w v xs) (hb : Below B w w') : RowSB B w' v xs := RowG.map h hb.size fun b _ _ _ ⟨hl, h0, h1, h2, h3, h4, h5⟩ => ⟨hl, (hb.cell (p := ⟨b, _, none⟩) hl).trans h0, (hb.cell (p := ⟨b, _, none⟩) hl).trans h1, (hb.cell (p := ⟨b, _, none⟩) hl).trans h2, (hb.cell (p := ⟨b, _, none⟩) hl).trans h3, (hb.cell (p := ⟨b, _, none⟩) hl).trans h4, (hb.cell (p := ⟨b, _, none⟩) hl).trans h5⟩
theorem RowLB.below {B : Nat} {w w' : World} {v : Value} {xs : List Lk} (h : RowLB B w v xs) (hb : Below B w w') : RowLB B w' v xs := RowG.map h hb.size fun b _ _ _ ⟨hl, u, h0, h1, h2, h3, h4, h5⟩ => ⟨hl, u, (hb.cell (p := ⟨b, _, none⟩) hl).trans h0, (hb.cell (p := ⟨b, _, none⟩) hl).trans h1, (hb.cell (p := ⟨b, _, none⟩) hl).trans h2, (hb.cell (p := ⟨b, _, none⟩) hl).trans h3, (hb.cell (p := ⟨b, _, none⟩) hl).trans h4, RowWB.below h5 hb⟩
theorem own_away {e : TypeId} {w : World} {B : Nat} {v : Value} {zs : List Int} (h : OwnB e w B v zs) : some w.heap.size ≠ v.ownBlock := by
 intro hn
 unfold OwnB at h
 have := (h.lt _ hn.symm).2
 omega
theorem box_kept {w w1 : World} {v v1 : Value} {cs : Array Value} {t : TypeId} (h : Kp (w.alloc (.cells cs t)) w1 v v1) (hn : some w.heap.size ≠ v.ownBlock) : w1.heap[w.heap.size]? = some (.cells cs t (0, 0)) :=
 (h.block w.heap.size (by simp) hn).trans (heap_alloc_new w _)
end Go.Proofs.YtakfniknkejgpaaDoor.Pt
