/- Texts put together: Hta, Hte, Rg. -/
import Derived.Test.YtakfniknkejgpaaDoorMt10
import Derived.Test.YtakfniknkejgpaaDoorMt12
import Derived.Test.YtakfniknkejgpaaDoorMt2
import Derived.Test.YtakfniknkejgpaaDoorMt4
import Derived.Lib.SmallJoins
import Derived.Laws.MakeOwn
import Derived.Laws.NewBlocks
import Derived.Deep.QuietTactic
import Derived.BigQuiet
import Derived.Deep.Slices
import Derived.Deep.Fields23
import Derived.OpenShut
import Derived.Deep.RegionLaw
import Derived.BigRegion
import Derived.Laws.ResultCell
import Derived.Deep.CutRange
import Derived.Deep.DeepCutAuto
import Derived.Deep.RegionWith
/- Tables are read back from their bytes, and bytes that are read are written again: of no program. -/
namespace Go.Proofs.YtakfniknkejgpaaDoor.Ht
open Go.RowKit Go.Proofs.YtakfniknkejgpaaDoor.Sl Go.Proofs.YtakfniknkejgpaaDoor.By Go.Proofs.YtakfniknkejgpaaDoor.Ap Go.Proofs.YtakfniknkejgpaaDoor.Rr Go.Proofs.YtakfniknkejgpaaDoor.Tb Go.Proofs.YtakfniknkejgpaaDoor.Tw Go.Proofs.YtakfniknkejgpaaDoor.Tp Go.Proofs.YtakfniknkejgpaaDoor.Pu Go.Proofs.YtakfniknkejgpaaDoor.Pt Go.Proofs.YtakfniknkejgpaaDoor.Ur Go.Proofs.YtakfniknkejgpaaDoor.Rq
theorem tk_yes {n : Nat} {xs : List Int} (h : n ≤ xs.length) : tkB n xs = xs.take n ∧ tkR n xs = xs.drop n ∧ ∀ sh, tkS n xs sh = sh := by
 unfold tkB tkR tkS
 rw [if_neg (by omega), if_neg (by omega), decide_eq_false (by omega)]
 exact ⟨rfl, rfl, fun sh => by simp⟩
theorem tk_app {n : Nat} {a b : List Int} (h : a.length = n) : tkB n (a ++ b) = a ∧ tkR n (a ++ b) = b ∧ ∀ sh, tkS n (a ++ b) sh = sh := by
 obtain ⟨h1, h2, h3⟩ := tk_yes (n := n) (xs := a ++ b) (by rw [List.length_append]; omega)
 refine ⟨?_, ?_, h3⟩
 ·rw [h1, List.take_append_of_le_length (by omega), List.take_of_length_le (by omega)]
 ·rw [h2, List.drop_append_of_le_length (by omega), List.drop_eq_nil_of_le (by omega)]; rfl
theorem be1 {x : Int} (h0 : 0 ≤ x) (h1 : x ≤ 255) : beN (nums x 1 1) = x := by
 have e : nums x 1 1 = [nb x 0] := rfl
 rw [e]
 have e0 : nb x 0 = x := by show x / 1 % 256 = x; omega
 simp [beN, e0]
theorem be2 {x : Int} (h0 : 0 ≤ x) (h1 : x ≤ 65535) : beN (nums x 2 2) = x := by
 have e : nums x 2 2 = [nb x 1, nb x 0] := rfl
 rw [e]
 have e0 : nb x 0 = x % 256 := by show x / 1 % 256 = _; omega
 have e1 : nb x 1 = x / 256 % 256 := rfl
 simp [beN, e0, e1]
 omega
theorem be3 {x : Int} (h0 : 0 ≤ x) (h1 : x ≤ 16777215) : beN (nums x 3 3) = x := by
 have e : nums x 3 3 = [nb x 2, nb x 1, nb x 0] := rfl
 rw [e]
 have e0 : nb x 0 = x % 256 := by show x / 1 % 256 = _; omega
 have e1 : nb x 1 = x / 256 % 256 := rfl
 have e2 : nb x 2 = x / 65536 % 256 := rfl
 simp [beN, e0, e1, e2]
 omega
theorem be4 {x : Int} (h0 : 0 ≤ x) (h1 : x ≤ 4294967295) : beN (nums x 4 4) = x := by
 have e : nums x 4 4 = [nb x 3, nb x 2, nb x 1, nb x 0] := rfl
 rw [e]
 have e0 : nb x 0 = x % 256 := by show x / 1 % 256 = _; omega
 have e1 : nb x 1 = x / 256 % 256 := rfl
 have e2 : nb x 2 = x / 65536 % 256 := rfl
 have e3 : nb x 3 = x / 16777216 % 256 := rfl
 simp [beN, e0, e1, e2, e3]
 omega
theorem str_bys (s : ByteArray) : strOfNums (bys s) = s := by
 apply ByteArray.ext
 apply Array.ext'
 rw [strOfNums_data]
 unfold bys
 rw [List.map_map]
 conv => rhs; rw [← List.map_id s.data.toList]
 apply List.map_congr_left
 intro b _
 simp
theorem txt_app {n : Nat} {s : ByteArray} {rest : List Int} (h : beN (nums (s.size : Int) n n) = (s.size : Int)) :
 txtB n (nums (s.size : Int) n n ++ (bys s ++ rest)) = s ∧ txtR n (nums (s.size : Int) n n ++ (bys s ++ rest)) = rest ∧ ∀ sh, txtS n (nums (s.size : Int) n n ++ (bys s ++ rest)) sh = sh := by
 obtain ⟨a1, a2, a3⟩ := tk_app (n := n) (a := nums (s.size : Int) n n) (b := bys s ++ rest) (nums_length _ _ _)
 obtain ⟨b1, b2, b3⟩ := tk_app (n := s.size) (a := bys s) (b := rest) (bys_length _)
 have en : txtN n (nums (s.size : Int) n n ++ (bys s ++ rest)) = s.size := by unfold txtN; rw [a1, h]; rfl
 unfold txtB txtR txtS
 rw [en, a2, b1, b2, str_bys]
 refine ⟨rfl, rfl, fun sh => ?_⟩
 rw [a3, b3]
theorem nv_app {n : Nat} {x : Int} {rest : List Int} (h : beN (nums x n n) = x) : nv n (nums x n n ++ rest) = x ∧ tkR n (nums x n n ++ rest) = rest ∧ ∀ sh, tkS n (nums x n n ++ rest) sh = sh := by
 obtain ⟨a1, a2, a3⟩ := tk_app (n := n) (a := nums x n n) (b := rest) (nums_length _ _ _)
 refine ⟨?_, a2, a3⟩
 unfold nv; rw [a1, h]
theorem it_back {α : Type} {f : List Int → List Int} {o : List Int → α} {g : List Int → Bool → Bool} {bs : α → List Int} {P : α → Prop}
 (hb : ∀ x, P x → ∀ rest, o (bs x ++ rest) = x ∧ f (bs x ++ rest) = rest ∧ ∀ sh, g (bs x ++ rest) sh = sh) (xs : List α) (hP : ∀ x ∈ xs, P x) (rest : List Int) :
 ∀ k, k ≤ xs.length → itL f o k (xs.flatMap bs ++ rest) = xs.take k ∧ itR f k (xs.flatMap bs ++ rest) = (xs.drop k).flatMap bs ++ rest ∧ ∀ sh, itS f g k (xs.flatMap bs ++ rest) sh = sh
 | 0, _ => ⟨rfl, rfl, fun _ => rfl⟩
 | k + 1, hk => by
   obtain ⟨i1, i2, i3⟩ := it_back hb xs hP rest k (by omega)
   have hx : xs[k]? = some xs[k] := List.getElem?_eq_getElem (by omega)
   have hd : xs.drop k = xs[k] :: xs.drop (k + 1) := (List.drop_eq_getElem_cons (by omega))
   have hcat : (xs.drop k).flatMap bs ++ rest = bs xs[k] ++ ((xs.drop (k + 1)).flatMap bs ++ rest) := by rw [hd, List.flatMap_cons, List.append_assoc]
   obtain ⟨h1, h2, h3⟩ := hb xs[k] (hP _ (List.getElem_mem _)) ((xs.drop (k + 1)).flatMap bs ++ rest)
   refine ⟨?_, ?_, fun sh => ?_⟩
   ·show itL f o k _ ++ [o (itR f k _)] = _
    rw [i1, i2, hcat, h1, List.take_add_one, hx]
    rfl
   ·show f (itR f k _) = _
    rw [i2, hcat, h2]
   ·show g (itR f k _) (itS f g k _ sh) = _
    rw [i2, hcat, h3, i3]
theorem it_all {α : Type} {f : List Int → List Int} {o : List Int → α} {g : List Int → Bool → Bool} {bs : α → List Int} {P : α → Prop}
 (hb : ∀ x, P x → ∀ rest, o (bs x ++ rest) = x ∧ f (bs x ++ rest) = rest ∧ ∀ sh, g (bs x ++ rest) sh = sh) (xs : List α) (hP : ∀ x ∈ xs, P x) (rest : List Int) :
 itL f o xs.length (xs.flatMap bs ++ rest) = xs ∧ itR f xs.length (xs.flatMap bs ++ rest) = rest ∧ ∀ sh, itS f g xs.length (xs.flatMap bs ++ rest) sh = sh := by
 obtain ⟨h1, h2, h3⟩ := it_back hb xs hP rest xs.length (Nat.le_refl _)
 refine ⟨by rw [h1, List.take_length], by rw [h2, List.drop_length]; rfl, h3⟩
def WtP (x : Wt) : Prop := 0 ≤ x.c ∧ x.c ≤ 255 ∧ 0 ≤ x.l ∧ x.l ≤ 65535
theorem wt_back (x : Wt) (h : WtP x) (rest : List Int) : wtO (wtBs x ++ rest) = x ∧ wtR (wtBs x ++ rest) = rest ∧ ∀ sh, wtS (wtBs x ++ rest) sh = sh := by
 obtain ⟨h1, h2, h3, h4⟩ := h
 unfold wtBs
 rw [List.append_assoc]
 obtain ⟨a1, a2, a3⟩ := nv_app (n := 1) (rest := nums x.l 2 2 ++ rest) (be1 h1 h2)
 obtain ⟨b1, b2, b3⟩ := nv_app (n := 2) (rest := rest) (be2 h3 h4)
 unfold wtO wtR wtS
 rw [a2, a1, b1, b2]
 exact ⟨rfl, rfl, fun sh => by rw [a3, b3]⟩
def LkP (x : Lk) : Prop := x.n.size ≤ 255 ∧ (0 ≤ x.t ∧ x.t ≤ 16777215) ∧ (0 ≤ x.h + 1 ∧ x.h + 1 ≤ 65535) ∧ (0 ≤ x.e ∧ x.e ≤ 4294967295) ∧ x.ws.length ≤ 255 ∧ ∀ y ∈ x.ws, WtP y
theorem cnt_app {k : Nat} {rest : List Int} (h : k ≤ 255) : cnt (nums (k : Int) 1 1 ++ rest) = k := by
 unfold cnt
 rw [(nv_app (n := 1) (rest := rest) (be1 (x := (k : Int)) (by omega) (by omega))).1]
 rfl
theorem lk_back (x : Lk) (h : LkP x) (rest : List Int) : lkO (lkBs x ++ rest) = x ∧ lkR (lkBs x ++ rest) = rest ∧ ∀ sh, lkS (lkBs x ++ rest) sh = sh := by
 obtain ⟨h1, ⟨h2, h3⟩, ⟨h4, h5⟩, ⟨h6, h7⟩, h8, h9⟩ := h
 unfold lkBs
 simp only [List.append_assoc]
 obtain ⟨a1, a2, a3⟩ := txt_app (n := 1) (s := x.n) (rest := nums x.t 3 3 ++ (nums (x.h + 1) 2 2 ++ (nums x.e 4 4 ++ (nums (x.ws.length : Int) 1 1 ++ (wsBs x.ws ++ rest))))) (be1 (by omega) (by omega))
 obtain ⟨b1, b2, b3⟩ := nv_app (n := 3) (rest := nums (x.h + 1) 2 2 ++ (nums x.e 4 4 ++ (nums (x.ws.length : Int) 1 1 ++ (wsBs x.ws ++ rest)))) (be3 h2 h3)
 obtain ⟨c1, c2, c3⟩ := nv_app (n := 2) (rest := nums x.e 4 4 ++ (nums (x.ws.length : Int) 1 1 ++ (wsBs x.ws ++ rest))) (be2 h4 h5)
 obtain ⟨d1, d2, d3⟩ := nv_app (n := 4) (rest := nums (x.ws.length : Int) 1 1 ++ (wsBs x.ws ++ rest)) (be4 h6 h7)
 obtain ⟨e1, e2, e3⟩ := nv_app (n := 1) (x := (x.ws.length : Int)) (rest := wsBs x.ws ++ rest) (be1 (by omega) (by omega))
 obtain ⟨f1, f2, f3⟩ := it_all wt_back x.ws h9 rest
 unfold lkO lkR lkS lkS3 lk3
 rw [a2, b2, c2, d2, cnt_app h8, e2, a1, b1, c1, d1]
 unfold wsBs
 unfold wsBs at e3 d3 c3 b3 a3
 rw [f1, f2]
 refine ⟨?_, rfl, fun sh => ?_⟩
 ·rw [show x.h + 1 - 1 = x.h by omega]
 ·rw [f3, e3, d3, c3, b3, a3]
def SnP (x : Sn) : Prop := (0 ≤ x.c ∧ x.c ≤ 255) ∧ (0 ≤ x.s ∧ x.s ≤ 65535) ∧ (0 ≤ x.k ∧ x.k ≤ 255) ∧ (0 ≤ x.t ∧ x.t ≤ 16777215) ∧ (0 ≤ x.h + 1 ∧ x.h + 1 ≤ 65535) ∧ (0 ≤ x.e ∧ x.e ≤ 4294967295)
theorem sn_back (x : Sn) (h : SnP x) (rest : List Int) : snO (snBs x ++ rest) = x ∧ snR (snBs x ++ rest) = rest ∧ ∀ sh, snS (snBs x ++ rest) sh = sh := by
 obtain ⟨⟨h1, h2⟩, ⟨h3, h4⟩, ⟨h5, h6⟩, ⟨h7, h8⟩, ⟨h9, h10⟩, ⟨h11, h12⟩⟩ := h
 unfold snBs
 simp only [List.append_assoc]
 obtain ⟨a1, a2, a3⟩ := nv_app (n := 1) (rest := nums x.s 2 2 ++ (nums x.k 1 1 ++ (nums x.t 3 3 ++ (nums (x.h + 1) 2 2 ++ (nums x.e 4 4 ++ rest))))) (be1 h1 h2)
 obtain ⟨b1, b2, b3⟩ := nv_app (n := 2) (rest := nums x.k 1 1 ++ (nums x.t 3 3 ++ (nums (x.h + 1) 2 2 ++ (nums x.e 4 4 ++ rest)))) (be2 h3 h4)
 obtain ⟨c1, c2, c3⟩ := nv_app (n := 1) (rest := nums x.t 3 3 ++ (nums (x.h + 1) 2 2 ++ (nums x.e 4 4 ++ rest))) (be1 h5 h6)
 obtain ⟨d1, d2, d3⟩ := nv_app (n := 3) (rest := nums (x.h + 1) 2 2 ++ (nums x.e 4 4 ++ rest)) (be3 h7 h8)
 obtain ⟨e1, e2, e3⟩ := nv_app (n := 2) (rest := nums x.e 4 4 ++ rest) (be2 h9 h10)
 obtain ⟨f1, f2, f3⟩ := nv_app (n := 4) (rest := rest) (be4 h11 h12)
 unfold snO snR snS sn5
 rw [a2, b2, c2, d2, e2, f2, a1, b1, c1, d1, e1, f1]
 refine ⟨?_, rfl, fun sh => ?_⟩
 ·rw [show x.h + 1 - 1 = x.h by omega]
 ·rw [a3, b3, c3, d3, e3, f3]
theorem in_of {x a b : Int} (h : inB x a b = true) : a ≤ x ∧ x ≤ b := of_decide_eq_true h
theorem ls_p {nx : Int} {ls : List Lk} (h : LsOK nx ls) (hn : nx ≤ 1000000) : ∀ x ∈ ls, LkP x := by
 intro x hx
 obtain ⟨i, hi, rfl⟩ := List.mem_iff_getElem.1 hx
 obtain ⟨_, g2, g3, g4⟩ := h i _ (List.getElem?_eq_getElem hi)
 have hs := op_size g2
 have ht := in_of g3
 refine ⟨by omega, by omega, ?_⟩
 rcases g4 with ⟨g, e, k⟩ | ⟨_, g, e, k, ws⟩
 ·refine ⟨by omega, by omega, by omega, fun y hy => ?_⟩
  have := List.length_eq_zero_iff.1 k
  rw [this] at hy
  cases hy
 ·have h1 := in_of g
  have h2 := in_of e
  refine ⟨by omega, by omega, by omega, fun y hy => ?_⟩
  obtain ⟨j, hj, rfl⟩ := List.mem_iff_getElem.1 hy
  obtain ⟨w1, w2, _⟩ := ws j _ (List.getElem?_eq_getElem hj)
  have h3 := in_of w1
  have h4 := in_of w2
  exact ⟨h3.1, h3.2, by omega, by omega⟩
theorem ss_p : ∀ (ss : List Sn), SsOK ss → ∀ x ∈ ss, SnP x := by
 intro ss h
 have hp : ∀ i (x : Sn), ss[i]? = some x → 0 ≤ pc ss i := by
  intro i
  induction i with
  | zero => intro x _; show (0 : Int) ≤ 0; exact Int.le_refl _
  | succ k ih =>
    intro x hx
    have hk : k < ss.length := by have := (List.getElem?_eq_some_iff.1 hx).1; omega
    have hy := List.getElem?_eq_getElem hk
    have h0 := ih _ hy
    obtain ⟨g1, _⟩ := h k _ hy
    have := in_of g1
    rw [pc_succ hy]
    omega
 intro x hx
 obtain ⟨i, hi, rfl⟩ := List.mem_iff_getElem.1 hx
 have hg := List.getElem?_eq_getElem hi
 obtain ⟨g1, g2, g3, g4, g5, g6⟩ := h i _ hg
 have h0 := hp i _ hg
 have h1 := in_of g1
 have h2 := in_of g2
 have h3 := in_of g3
 have h4 := in_of g4
 have h5 := in_of g5
 have h6 := in_of g6
 exact ⟨by omega, by omega, by omega, by omega, by omega, by omega⟩
theorem tab_back (t : Tab) (h : TOK t) : tbO (tabB t) = t ∧ tbR (tabB t) = [] ∧ ∀ sh, tbS (tabB t) sh = sh := by
 obtain ⟨h1, h2, h3, h4, h5, h6⟩ := h
 have i1 := in_of h1
 have i2 := in_of h2
 unfold tabB tabBs
 obtain ⟨a1, a2, a3⟩ := nv_app (n := 4) (rest := nums t.nx 3 3 ++ (nums (t.ls.length : Int) 1 1 ++ (lsBs t.ls ++ (nums (t.ss.length : Int) 1 1 ++ ssBs t.ss)))) (be4 (x := t.tm) (by omega) (by omega))
 obtain ⟨b1, b2, b3⟩ := nv_app (n := 3) (rest := nums (t.ls.length : Int) 1 1 ++ (lsBs t.ls ++ (nums (t.ss.length : Int) 1 1 ++ ssBs t.ss))) (be3 (x := t.nx) (by omega) (by omega))
 obtain ⟨c1, c2, c3⟩ := nv_app (n := 1) (x := (t.ls.length : Int)) (rest := lsBs t.ls ++ (nums (t.ss.length : Int) 1 1 ++ ssBs t.ss)) (be1 (by omega) (by omega))
 obtain ⟨d1, d2, d3⟩ := it_all lk_back t.ls (ls_p h4 i2.2) (nums (t.ss.length : Int) 1 1 ++ ssBs t.ss)
 obtain ⟨e1, e2, e3⟩ := nv_app (n := 1) (x := (t.ss.length : Int)) (rest := ssBs t.ss) (be1 (by omega) (by omega))
 obtain ⟨f1, f2, f3⟩ := it_all sn_back t.ss (ss_p t.ss h6) []
 rw [List.append_nil] at f1 f2 f3
 have C1 : cnt (nums (t.ls.length : Int) 1 1 ++ (lsBs t.ls ++ (nums (t.ss.length : Int) 1 1 ++ ssBs t.ss))) = t.ls.length := cnt_app (by omega)
 have C2 : cnt (nums (t.ss.length : Int) 1 1 ++ ssBs t.ss) = t.ss.length := cnt_app (by omega)
 have E2 : tb2 (nums t.tm 4 4 ++ (nums t.nx 3 3 ++ (nums (t.ls.length : Int) 1 1 ++ (lsBs t.ls ++ (nums (t.ss.length : Int) 1 1 ++ ssBs t.ss))))) = nums (t.ls.length : Int) 1 1 ++ (lsBs t.ls ++ (nums (t.ss.length : Int) 1 1 ++ ssBs t.ss)) := by unfold tb2; rw [a2, b2]
 have EA : tbA (nums t.tm 4 4 ++ (nums t.nx 3 3 ++ (nums (t.ls.length : Int) 1 1 ++ (lsBs t.ls ++ (nums (t.ss.length : Int) 1 1 ++ ssBs t.ss))))) = lsBs t.ls ++ (nums (t.ss.length : Int) 1 1 ++ ssBs t.ss) := by unfold tbA; rw [E2, c2]
 have EB : tbB (nums t.tm 4 4 ++ (nums t.nx 3 3 ++ (nums (t.ls.length : Int) 1 1 ++ (lsBs t.ls ++ (nums (t.ss.length : Int) 1 1 ++ ssBs t.ss))))) = nums (t.ss.length : Int) 1 1 ++ ssBs t.ss := by unfold tbB; rw [E2, EA, C1]; exact d2
 have EC : tbC (nums t.tm 4 4 ++ (nums t.nx 3 3 ++ (nums (t.ls.length : Int) 1 1 ++ (lsBs t.ls ++ (nums (t.ss.length : Int) 1 1 ++ ssBs t.ss))))) = ssBs t.ss := by unfold tbC; rw [EB, e2]
 unfold tbO tbR tbS tbS2 tbS1
 rw [E2, EA, EB, EC, C1, C2, a1, a2, b1]
 unfold ssBs lsBs at *
 rw [d1, f1, f2]
 exact ⟨rfl, rfl, fun sh => by rw [f3, e3, d3, c3, b3, a3]⟩
theorem rt_back (t : Tab) (h : TOK t) : rtC (tabB t) = 0 ∧ rtT (tabB t) = t := by
 obtain ⟨h1, h2, h3⟩ := tab_back t h
 have hl := tab_len t h
 have hok : rtOK (tabB t) = true := by
  unfold rtOK
  rw [h1, h2, h3, bOf_true h]
  rfl
 have hc : rtC (tabB t) = 0 := by unfold rtC; rw [if_neg (by omega), hok]; rfl
 exact ⟨hc, by unfold rtT; rw [hc, if_pos rfl, h1]⟩
end Go.Proofs.YtakfniknkejgpaaDoor.Ht

/- Bytes that are read as a table are just that table's: of no program. -/
namespace Go.Proofs.YtakfniknkejgpaaDoor.Ht
open Go.RowKit Go.Proofs.YtakfniknkejgpaaDoor.Sl Go.Proofs.YtakfniknkejgpaaDoor.By Go.Proofs.YtakfniknkejgpaaDoor.Ap Go.Proofs.YtakfniknkejgpaaDoor.Rr Go.Proofs.YtakfniknkejgpaaDoor.Tb Go.Proofs.YtakfniknkejgpaaDoor.Tw Go.Proofs.YtakfniknkejgpaaDoor.Tp Go.Proofs.YtakfniknkejgpaaDoor.Pu Go.Proofs.YtakfniknkejgpaaDoor.Pt Go.Proofs.YtakfniknkejgpaaDoor.Ur Go.Proofs.YtakfniknkejgpaaDoor.Rq
def Rng (xs : List Int) : Prop := ∀ x ∈ xs, 0 ≤ x ∧ x ≤ 255
theorem tk_join {n : Nat} {xs : List Int} {sh : Bool} (h : tkS n xs sh = false) : tkB n xs ++ tkR n xs = xs ∧ (tkB n xs).length = n ∧ sh = false := by
 unfold tkS at h
 rw [Bool.or_eq_false_iff] at h
 have h2 : ¬ xs.length < n := of_decide_eq_false h.2
 unfold tkB tkR
 rw [if_neg h2, if_neg h2, List.take_append_drop, List.length_take]
 exact ⟨rfl, by omega, h.1⟩
theorem nums_be1 {xs : List Int} (hr : Rng xs) (h : xs.length = 1) : nums (beN xs) 1 1 = xs := by
 match xs, h with
 | [a], _ =>
   have ha := hr a (by simp)
   have e : beN [a] = a := by simp [beN]
   rw [e]
   show [a / 1 % 256] = [a]
   congr 1
   omega
theorem nums_be2 {xs : List Int} (hr : Rng xs) (h : xs.length = 2) : nums (beN xs) 2 2 = xs := by
 match xs, h with
 | [a, b], _ =>
   have ha := hr a (by simp)
   have hb := hr b (by simp)
   have e : beN [a, b] = a * 256 + b := by simp [beN]
   rw [e]
   have e0 : (a * 256 + b) / 256 % 256 = a := by omega
   have e1 : (a * 256 + b) / 1 % 256 = b := by omega
   show [(a * 256 + b) / 256 % 256, (a * 256 + b) / 1 % 256] = [a, b]
   rw [e0, e1]
theorem nums_be3 {xs : List Int} (hr : Rng xs) (h : xs.length = 3) : nums (beN xs) 3 3 = xs := by
 match xs, h with
 | [a, b, c], _ =>
   have ha := hr a (by simp)
   have hb := hr b (by simp)
   have hc := hr c (by simp)
   have e : beN [a, b, c] = (a * 256 + b) * 256 + c := by simp [beN]
   rw [e]
   have e0 : ((a * 256 + b) * 256 + c) / 65536 % 256 = a := by omega
   have e1 : ((a * 256 + b) * 256 + c) / 256 % 256 = b := by omega
   have e2 : ((a * 256 + b) * 256 + c) / 1 % 256 = c := by omega
   show [((a * 256 + b) * 256 + c) / 65536 % 256, ((a * 256 + b) * 256 + c) / 256 % 256, ((a * 256 + b) * 256 + c) / 1 % 256] = [a, b, c]
   rw [e0, e1, e2]
theorem nums_be4 {xs : List Int} (hr : Rng xs) (h : xs.length = 4) : nums (beN xs) 4 4 = xs := by
 match xs, h with
 | [a, b, c, d], _ =>
   have ha := hr a (by simp)
   have hb := hr b (by simp)
   have hc := hr c (by simp)
   have hd := hr d (by simp)
   have e : beN [a, b, c, d] = ((a * 256 + b) * 256 + c) * 256 + d := by simp [beN]
   rw [e]
   have e0 : (((a * 256 + b) * 256 + c) * 256 + d) / 16777216 % 256 = a := by omega
   have e1 : (((a * 256 + b) * 256 + c) * 256 + d) / 65536 % 256 = b := by omega
   have e2 : (((a * 256 + b) * 256 + c) * 256 + d) / 256 % 256 = c := by omega
   have e3 : (((a * 256 + b) * 256 + c) * 256 + d) / 1 % 256 = d := by omega
   show [(((a * 256 + b) * 256 + c) * 256 + d) / 16777216 % 256, (((a * 256 + b) * 256 + c) * 256 + d) / 65536 % 256, (((a * 256 + b) * 256 + c) * 256 + d) / 256 % 256, (((a * 256 + b) * 256 + c) * 256 + d) / 1 % 256] = [a, b, c, d]
   rw [e0, e1, e2, e3]
theorem nv_again {n : Nat} {xs : List Int} {sh : Bool} (hr : Rng xs) (hn : n = 1 ∨ n = 2 ∨ n = 3 ∨ n = 4) (h : tkS n xs sh = false) : nums (nv n xs) n n ++ tkR n xs = xs ∧ sh = false := by
 obtain ⟨h1, h2, h3⟩ := tk_join h
 refine ⟨?_, h3⟩
 have e : nums (beN (tkB n xs)) n n = tkB n xs := by
  rcases hn with rfl | rfl | rfl | rfl
  ·exact nums_be1 (tkB_range hr) h2
  ·exact nums_be2 (tkB_range hr) h2
  ·exact nums_be3 (tkB_range hr) h2
  ·exact nums_be4 (tkB_range hr) h2
 unfold nv
 rw [e, h1]
theorem bys_str (xs : List Int) (h : Rng xs) : bys (strOfNums xs) = xs := by
 unfold bys
 rw [strOfNums_data, List.map_map]
 conv => rhs; rw [← List.map_id xs]
 apply List.map_congr_left
 intro x hx
 have := h x hx
 simp
 omega
theorem txt_again {xs : List Int} {sh : Bool} (hr : Rng xs) (h : txtS 1 xs sh = false) : nums ((txtB 1 xs).size : Int) 1 1 ++ (bys (txtB 1 xs) ++ txtR 1 xs) = xs ∧ sh = false := by
 unfold txtS at h
 obtain ⟨a1, a2, a3⟩ := tk_join h
 obtain ⟨b1, b3⟩ := nv_again hr (.inl rfl) a3
 have hr2 : Rng (tkR 1 xs) := tkR_range (n := 1) hr
 have e1 : bys (txtB 1 xs) = tkB (txtN 1 xs) (tkR 1 xs) := by unfold txtB; exact bys_str _ (tkB_range hr2)
 have e2 : ((txtB 1 xs).size : Int) = nv 1 xs := by
  have h0 : (bys (txtB 1 xs)).length = txtN 1 xs := by rw [e1, a2]
  rw [bys_length] at h0
  rw [h0, ← (txtN_le 1 xs (by omega) hr).2]
  rfl
 refine ⟨?_, b3⟩
 rw [e2, e1]
 unfold txtR
 rw [a1, b1]
theorem it_range {f : List Int → List Int} (hf : ∀ xs, Rng xs → Rng (f xs)) : ∀ k xs, Rng xs → Rng (itR f k xs)
 | 0, _, h => h
 | k + 1, xs, h => hf _ (it_range hf k xs h)
theorem it_again {α : Type} {f : List Int → List Int} {o : List Int → α} {g : List Int → Bool → Bool} {bs : α → List Int} (hf : ∀ xs, Rng xs → Rng (f xs))
 (hA : ∀ xs sh, Rng xs → g xs sh = false → bs (o xs) ++ f xs = xs ∧ sh = false) (xs : List Int) (sh : Bool) (hr : Rng xs) : ∀ k, itS f g k xs sh = false → (itL f o k xs).flatMap bs ++ itR f k xs = xs ∧ sh = false
 | 0, h => ⟨rfl, h⟩
 | k + 1, h => by
   obtain ⟨h1, h2⟩ := hA (itR f k xs) (itS f g k xs sh) (it_range hf k xs hr) h
   obtain ⟨i1, i2⟩ := it_again hf hA xs sh hr k h2
   refine ⟨?_, i2⟩
   show (itL f o k xs ++ [o (itR f k xs)]).flatMap bs ++ f (itR f k xs) = xs
   rw [List.flatMap_append, List.append_assoc]
   show (itL f o k xs).flatMap bs ++ ([o (itR f k xs)].flatMap bs ++ f (itR f k xs)) = xs
   rw [List.flatMap_singleton, h1, i1]
theorem wt_again (xs : List Int) (sh : Bool) (hr : Rng xs) (h : wtS xs sh = false) : wtBs (wtO xs) ++ wtR xs = xs ∧ sh = false := by
 unfold wtS at h
 have r1 : Rng (tkR 1 xs) := tkR_range hr
 obtain ⟨a1, a2⟩ := nv_again r1 (.inr (.inl rfl)) h
 obtain ⟨b1, b2⟩ := nv_again hr (.inl rfl) a2
 refine ⟨?_, b2⟩
 unfold wtBs wtO wtR
 dsimp only
 rw [List.append_assoc, a1, b1]
theorem cnt_again {xs : List Int} {sh : Bool} (hr : Rng xs) (h : tkS 1 xs sh = false) : nums ((cnt xs : Nat) : Int) 1 1 ++ tkR 1 xs = xs ∧ sh = false := by
 have h0 := (nv_range (n := 1) hr).1
 have e : ((cnt xs : Nat) : Int) = nv 1 xs := by unfold cnt; omega
 rw [e]
 exact nv_again hr (.inl rfl) h
theorem lk_again (xs : List Int) (sh : Bool) (hr : Rng xs) (h : lkS xs sh = false) : lkBs (lkO xs) ++ lkR xs = xs ∧ sh = false := by
 have r1 : Rng (txtR 1 xs) := txtR_range hr
 have r2 : Rng (tkR 3 (txtR 1 xs)) := tkR_range r1
 have r3 : Rng (tkR 2 (tkR 3 (txtR 1 xs))) := tkR_range r2
 have r4 : Rng (lk3 xs) := tkR_range r3
 have r5 : Rng (tkR 1 (lk3 xs)) := tkR_range r4
 unfold lkS at h
 obtain ⟨a1, a2⟩ := it_again (fun xs h => (less_wt xs).2 h) wt_again _ _ r5 _ h
 obtain ⟨b1, b2⟩ := cnt_again r4 a2
 unfold lkS3 at b2
 obtain ⟨c1, c2⟩ := nv_again r3 (.inr (.inr (.inr rfl))) b2
 obtain ⟨d1, d2⟩ := nv_again r2 (.inr (.inl rfl)) c2
 obtain ⟨e1, e2⟩ := nv_again r1 (.inr (.inr (.inl rfl))) d2
 obtain ⟨f1, f2⟩ := txt_again hr e2
 refine ⟨?_, f2⟩
 unfold lkBs lkO lkR wsBs
 dsimp only
 simp only [List.append_assoc]
 rw [itL_len, a1, show ∀ z : Int, z - 1 + 1 = z from fun z => by omega]
 rw [b1, show lk3 xs = tkR 4 (tkR 2 (tkR 3 (txtR 1 xs))) from rfl, c1, d1, e1, f1]
theorem sn_again (xs : List Int) (sh : Bool) (hr : Rng xs) (h : snS xs sh = false) : snBs (snO xs) ++ snR xs = xs ∧ sh = false := by
 have r1 : Rng (tkR 1 xs) := tkR_range hr
 have r2 : Rng (tkR 2 (tkR 1 xs)) := tkR_range r1
 have r3 : Rng (tkR 1 (tkR 2 (tkR 1 xs))) := tkR_range r2
 have r4 : Rng (tkR 3 (tkR 1 (tkR 2 (tkR 1 xs)))) := tkR_range r3
 have r5 : Rng (sn5 xs) := tkR_range r4
 unfold snS at h
 obtain ⟨a1, a2⟩ := nv_again r5 (.inr (.inr (.inr rfl))) h
 obtain ⟨b1, b2⟩ := nv_again r4 (.inr (.inl rfl)) a2
 obtain ⟨c1, c2⟩ := nv_again r3 (.inr (.inr (.inl rfl))) b2
 obtain ⟨d1, d2⟩ := nv_again r2 (.inl rfl) c2
 obtain ⟨e1, e2⟩ := nv_again r1 (.inr (.inl rfl)) d2
 obtain ⟨f1, f2⟩ := nv_again hr (.inl rfl) e2
 refine ⟨?_, f2⟩
 unfold snBs snO snR
 dsimp only
 simp only [List.append_assoc]
 rw [a1, show ∀ z : Int, z - 1 + 1 = z from fun z => by omega]
 rw [show sn5 xs = tkR 2 (tkR 3 (tkR 1 (tkR 2 (tkR 1 xs)))) from rfl, b1, c1, d1, e1, f1]
theorem tab_again (xs : List Int) (hr : Rng xs) (h : tbS xs false = false) (h2 : tbR xs = []) : tabB (tbO xs) = xs := by
 have r1 : Rng (tkR 4 xs) := tkR_range hr
 have r2 : Rng (tb2 xs) := tkR_range r1
 have r3 : Rng (tbA xs) := tkR_range r2
 have r4 : Rng (tbB xs) := it_range (fun xs h => (less_lk xs).2 h) _ _ r3
 have r5 : Rng (tbC xs) := tkR_range r4
 unfold tbS at h
 obtain ⟨a1, a2⟩ := it_again (fun xs h => (less_sn xs).2 h) sn_again _ _ r5 _ h
 unfold tbS2 at a2
 obtain ⟨b1, b2⟩ := cnt_again r4 a2
 obtain ⟨c1, c2⟩ := it_again (fun xs h => (less_lk xs).2 h) lk_again _ _ r3 _ b2
 unfold tbS1 at c2
 obtain ⟨d1, d2⟩ := cnt_again r2 c2
 obtain ⟨e1, e2⟩ := nv_again r1 (.inr (.inr (.inl rfl))) d2
 obtain ⟨f1, _⟩ := nv_again hr (.inr (.inr (.inr rfl))) e2
 have h3 : itR snR (cnt (tbB xs)) (tbC xs) = [] := h2
 rw [h3, List.append_nil] at a1
 unfold tabB tabBs tbO ssBs lsBs
 dsimp only
 rw [itL_len, itL_len, a1]
 have b1' : nums ((cnt (tbB xs) : Nat) : Int) 1 1 ++ tbC xs = itR lkR (cnt (tb2 xs)) (tbA xs) := b1
 rw [b1', c1]
 have d1' : nums ((cnt (tb2 xs) : Nat) : Int) 1 1 ++ tbA xs = tkR 3 (tkR 4 xs) := d1
 rw [d1', e1, f1]
theorem rt_again (xs : List Int) (hr : Rng xs) (h : rtC xs = 0) : tabB (rtT xs) = xs ∧ TOK (rtT xs) := by
 have hT : rtT xs = tbO xs := by unfold rtT; rw [if_pos h]
 have hok : rtOK xs = true := by
  unfold rtC at h
  split at h
  ·exact absurd h (by decide)
  ·cases e : rtOK xs
   ·rw [e] at h; exact absurd h (by decide)
   ·rfl
 unfold rtOK at hok
 simp only [Bool.and_eq_true, Bool.not_eq_true', List.isEmpty_iff] at hok
 rw [hT]
 refine ⟨tab_again xs hr hok.1 hok.2.1, ?_⟩
 have h3 := hok.2.2
 by_cases e : TOK (tbO xs)
 ·exact e
 ·rw [bOf_false e] at h3; cases h3
end Go.Proofs.YtakfniknkejgpaaDoor.Ht

/- Rows of things of several cells; memory that may be written; the laws' marks of texts. -/
namespace Go.Proofs.YtakfniknkejgpaaDoor.Rg
open Go.RowKit Go.Proofs.YtakfniknkejgpaaDoor.Sl Go.Proofs.YtakfniknkejgpaaDoor.By Go.Proofs.YtakfniknkejgpaaDoor.Ap

theorem size_new (w : World) (o : Obj) : (w.alloc o).heap.size = w.heap.size + 1 := by simp
theorem blk_cell {w : World} {b : Nat} {cs : Array Value} {t : TypeId} (h : w.heap[b]? = some (.cells cs t (0, 0))) (i : Nat) {x : Value} (hx : cs[i]? = some x) : w.cell? ⟨b, i, none⟩ = some x ∧ w.frozen? ⟨b, i, none⟩ = false := by
 refine ⟨(Joins.cell_of_block h i).trans hx, ?_⟩
 simp [World.frozen?, h]
theorem blk_set {w : World} {b : Nat} {cs : Array Value} {t : TypeId} (h : w.heap[b]? = some (.cells cs t (0, 0))) (i : Nat) (x : Value) : (w.setCell ⟨b, i, none⟩ x).heap[b]? = some (.cells (cs.setIfInBounds i x) t (0, 0)) := Joins.block_setCell (i := i) h x
theorem blk_far {w : World} {b k : Nat} (hk : k ≠ b) (i : Nat) (x : Value) : (w.setCell ⟨b, i, none⟩ x).heap[k]? = w.heap[k]? := Below.heap_setCell w ⟨b, i, none⟩ x k hk
theorem blk_new (w : World) (cs : Array Value) (t : TypeId) : (w.alloc (.cells cs t)).heap[w.heap.size]? = some (.cells cs t (0, 0)) := heap_alloc_new w _
theorem bel_new (w : World) (o : Obj) : Below w.heap.size w (w.alloc o) := (Below.refl _ _).alloc (Nat.le_refl _) _
def RowG {α : Type} (c : Nat) (E : World → Nat → Nat → α → Prop) (w : World) (v : Value) (xs : List α) : Prop :=
 ∃ a cap, v = .slice a xs.length cap ∧ (xs = [] ∨ ∃ b off, a = some ⟨b, off, none⟩ ∧ xs.length ≤ cap ∧ b < w.heap.size ∧ ∀ i x, xs[i]? = some x → E w b (off + i * c) x)
def Stays {α : Type} (E : World → Nat → Nat → α → Prop) : Prop := ∀ w w' b o x, Below w.heap.size w w' → b < w.heap.size → E w b o x → E w' b o x
theorem RowG.below {α : Type} {c : Nat} {E : World → Nat → Nat → α → Prop} (hE : Stays E) {w w' : World} {v : Value} {xs : List α} (h : RowG c E w v xs) (hb : Below w.heap.size w w') : RowG c E w' v xs := by
 obtain ⟨a, cap, rfl, h⟩ := h
 refine ⟨a, cap, rfl, ?_⟩
 rcases h with h | ⟨b, off, rfl, hc, hlt, h⟩
 ·exact .inl h
 ·exact .inr ⟨b, off, rfl, hc, Nat.lt_of_lt_of_le hlt hb.size, fun i x hi => hE _ _ _ _ _ hb hlt (h i x hi)⟩
theorem RowG.at {α : Type} {c : Nat} {E : World → Nat → Nat → α → Prop} {w : World} {v : Value} {a : Option Addr} {n cap : Nat} {xs : List α} (h : RowG c E w v xs) (hv : v = .slice a n cap) {i : Nat} {x : α} (hi : xs[i]? = some x) :
 ∃ b off, a = some ⟨b, off, none⟩ ∧ b < w.heap.size ∧ E w b (off + i * c) x := by
 obtain ⟨a', cap', rfl, h⟩ := h
 cases hv
 rcases h with h | ⟨b, off, rfl, hc, hlt, h⟩
 ·rw [h] at hi; simp at hi
 ·exact ⟨b, off, rfl, hlt, h i x hi⟩
theorem RowG.slice {α : Type} {c : Nat} {E : World → Nat → Nat → α → Prop} {w : World} {v : Value} {xs : List α} (h : RowG c E w v xs) : ∃ a cap, v = .slice a xs.length cap := by
 obtain ⟨a, cap, rfl, _⟩ := h
 exact ⟨a, cap, rfl⟩

theorem ret_i {a b : Int} (h : a = b) : Ending.returned (.int .i64 a) = .returned (.int .i64 b) := by rw [h]
theorem get_at {α : Type} {xs : List α} {k : Nat} (h : k < xs.length) : ∃ x, xs[k]? = some x := ⟨_, List.getElem?_eq_getElem h⟩
theorem lt_at {α : Type} {xs : List α} {k : Nat} {x : α} (h : xs[k]? = some x) : k < xs.length := (List.getElem?_eq_some_iff.1 h).1
theorem mem_at {α : Type} {xs : List α} {k : Nat} {x : α} (h : xs[k]? = some x) : x ∈ xs := List.mem_of_getElem? h
theorem three {w w1 : World} {o0 o1 o2 : Obj} (b : Below (((w.alloc o0).alloc o1).alloc o2).heap.size (((w.alloc o0).alloc o1).alloc o2) w1) :
 w1.heap[w.heap.size]? = some o0 ∧ w1.heap[w.heap.size + 1]? = some o1 ∧ w1.heap[w.heap.size + 1 + 1]? = some o2 ∧ w.heap.size + 1 + 1 + 1 ≤ w1.heap.size ∧ Below w.heap.size w w1 := by
 have e1 : (w.alloc o0).heap.size = w.heap.size + 1 := size_new _ _
 have e2 : ((w.alloc o0).alloc o1).heap.size = w.heap.size + 1 + 1 := by rw [size_new, e1]
 have e3 : (((w.alloc o0).alloc o1).alloc o2).heap.size = w.heap.size + 1 + 1 + 1 := by rw [size_new, e2]
 have b1 : Below w.heap.size w (((w.alloc o0).alloc o1).alloc o2) := (((Below.refl _ _).alloc (Nat.le_refl _) _).alloc (by rw [e1]; omega) _).alloc (by rw [e2]; omega) _
 have s := b.size
 rw [e3] at b s
 refine ⟨?_, ?_, ?_, s, b1.trans (b.mono (by omega))⟩
 ·rw [b.block _ (by omega), Below.heap_alloc _ _ _ (by omega), Below.heap_alloc _ _ _ (by omega)]; exact heap_alloc_new w _
 ·rw [b.block _ (by omega), Below.heap_alloc _ _ _ (by omega), ← e1]; exact heap_alloc_new _ _
 ·rw [b.block _ (by omega), ← e2]; exact heap_alloc_new _ _
structure Mid (B C : Nat) (w w' : World) : Prop where
 os : w'.os = w.os
 tape : w'.tape = w.tape
 output : w'.output = w.output
 size : w.heap.size ≤ w'.heap.size
 block : ∀ k, k < w.heap.size → (k < B ∨ C ≤ k) → w'.heap[k]? = w.heap[k]?
theorem Mid.refl (B C : Nat) (w : World) : Mid B C w w := ⟨rfl, rfl, rfl, Nat.le_refl _, fun _ _ _ => rfl⟩
theorem Mid.trans {B C : Nat} {w w1 w2 : World} (h : Mid B C w w1) (g : Mid B C w1 w2) : Mid B C w w2 :=
 ⟨g.os.trans h.os, g.tape.trans h.tape, g.output.trans h.output, Nat.le_trans h.size g.size, fun k hk hn => (g.block k (Nat.lt_of_lt_of_le hk h.size) hn).trans (h.block k hk hn)⟩
theorem Mid.of_below {B C : Nat} {w w1 : World} (h : Below w.heap.size w w1) : Mid B C w w1 := ⟨h.os, h.tape, h.output, h.size, fun k hk _ => h.block k hk⟩
theorem Mid.set {B C : Nat} {w : World} {g : Nat} (h1 : B ≤ g) (h2 : g < C) (j : Nat) (x : Value) : Mid B C w (w.setCell ⟨g, j, none⟩ x) :=
 ⟨rfl, rfl, rfl, by simp, fun k _ hk => Below.heap_setCell w ⟨g, j, none⟩ x k (fun e => by have e' : k = g := e; omega)⟩
theorem Mid.below {B C : Nat} {w w1 : World} (h : Mid B C w w1) (hB : B ≤ w.heap.size) : Below B w w1 := ⟨h.os, h.tape, h.output, h.size, fun k hk => h.block k (Nat.lt_of_lt_of_le hk hB) (.inl hk)⟩
def Wr (w : World) (g n : Nat) : Prop := ∃ A t, w.heap[g]? = some (.cells A t (0, 0)) ∧ n ≤ A.size
theorem Wr.lt {w : World} {g n : Nat} (h : Wr w g n) : g < w.heap.size := by obtain ⟨A, t, h, _⟩ := h; exact (Array.getElem?_eq_some_iff.1 h).1
theorem Wr.below {w w' : World} {g n : Nat} (h : Wr w g n) (hb : Below w.heap.size w w') : Wr w' g n := by
 obtain ⟨A, t, h, hn⟩ := h
 exact ⟨A, t, (hb.block g (Array.getElem?_eq_some_iff.1 h).1).trans h, hn⟩
theorem Wr.set {w : World} {g n : Nat} (h : Wr w g n) (p j : Nat) (x : Value) : Wr (w.setCell ⟨p, j, none⟩ x) g n := by
 obtain ⟨A, t, h, hn⟩ := h
 by_cases e : p = g
 ·subst e
  exact ⟨_, t, blk_set h j x, by rw [Array.size_setIfInBounds]; exact hn⟩
 ·exact ⟨A, t, (blk_far (fun h => e h.symm) j x).trans h, hn⟩
theorem Wr.cell {w : World} {g n : Nat} (h : Wr w g n) {j : Nat} (hj : j < n) : (∃ x, w.cell? ⟨g, j, none⟩ = some x) ∧ w.frozen? ⟨g, j, none⟩ = false := by
 obtain ⟨A, t, h, hn⟩ := h
 obtain ⟨c, f⟩ := blk_cell h j (x := A[j]'(by omega)) (Array.getElem?_eq_getElem (by omega))
 exact ⟨⟨_, c⟩, f⟩
def Kw (w w' : World) : Prop := ∀ g n, Wr w g n → Wr w' g n
theorem Kw.trans {w w1 w2 : World} (h : Kw w w1) (g : Kw w1 w2) : Kw w w2 := fun a n x => g a n (h a n x)
end Go.Proofs.YtakfniknkejgpaaDoor.Rg
namespace Go.Proofs.YtakfniknkejgpaaDoor.Rg
open Go.ChangeShapes Go.WideShapes Go.ChangeAt Go.RowKit Go.Deep
end Go.Proofs.YtakfniknkejgpaaDoor.Rg
