/- Texts put together: Ho, Se, Ka. -/
import Derived.Test.YtakfniknkejgpaaDoorMp3
import Derived.Test.YtakfniknkejgpaaDoorMp11
/- Texts joined and hashed: impl.hashOf, secretOf, nodeOf, keyOf. -/
namespace Go.Proofs.YtakfniknkejgpaaDoor.Ho
open Go.RowKit Go.Proofs.YtakfniknkejgpaaDoor.Sl Go.Proofs.YtakfniknkejgpaaDoor.By Go.Proofs.YtakfniknkejgpaaDoor.Ap Go.Proofs.YtakfniknkejgpaaDoor.Tx Go.Proofs.YtakfniknkejgpaaDoor.Sh

theorem bys_str (xs : List Int) (h : ∀ x ∈ xs, 0 ≤ x ∧ x ≤ 255) : bys (strOfNums xs) = xs := by
 unfold bys
 rw [strOfNums_data, List.map_map]
 apply List.ext_getElem?
 intro i
 rw [List.getElem?_map]
 cases hx : xs[i]? with
 | none => rfl
 | some x =>
   have := h x (List.mem_of_getElem? hx)
   simp only [Option.map_some, Function.comp_apply]
   congr 1
   rw [UInt8.toNat_ofNat_of_lt' (by unfold UInt8.size; omega)]
   omega
theorem bys_append (a b : ByteArray) : bys (a ++ b) = bys a ++ bys b := by
 unfold bys
 rw [← List.map_append]
 congr 1
def cat (ts : List ByteArray) : List Int := ts.flatMap bys
def catS (ts : List ByteArray) : ByteArray := ⟨(ts.flatMap fun t => t.data.toList).toArray⟩
theorem bys_catS (ts : List ByteArray) : bys (catS ts) = cat ts := by
 unfold bys catS cat
 induction ts with
 | nil => rfl
 | cons t ts ih => simp only [List.flatMap_cons, List.map_append] at ih ⊢; rw [ih]; rfl
theorem catS_size (ts : List ByteArray) : (catS ts).size = (cat ts).length := by rw [← bys_catS, bys_length]
theorem join_nosep : ∀ xs : List (List UInt8), Lib.join xs [] = xs.flatten
 | [] => rfl
 | x :: r => by rw [Lib.join_cons]; unfold Lib.joinTail; simp

theorem join_any (v : Value) (ts : List ByteArray) (w : World) (h : RowT w v ts) (hne : ts ≠ []) (hl : ts.length ≤ 1000000) (hs : (cat ts).length ≤ 1000000000) :
 Calls Tryd.prog 39 #[v, .string ⟨#[]⟩] w fun e w' => e = .returned (.string (catS ts)) ∧ Below w.heap.size w w' := by
 obtain ⟨a, cap, rfl, h⟩ := h
 rcases h with h | ⟨b, off, rfl, hc, hb, hcell⟩
 ·exact absurd h hne
 have e : (Lib.join (ts.map (·.data.toList)) (⟨#[]⟩ : ByteArray).data.toList) = ts.flatMap fun t => t.data.toList := by
  rw [show (⟨#[]⟩ : ByteArray).data.toList = [] from rfl, join_nosep, List.flatMap_def]
 have hz : (ts.flatMap fun t => t.data.toList).length ≤ 1000000000 := by
  have h1 := catS_size ts
  have h2 : (catS ts).size = (ts.flatMap fun t => t.data.toList).length := List.size_toArray
  omega
 have := Sf.join_laid b off cap ts ⟨#[]⟩ w (fun j x hj => by
  have hj' : j < ts.length := (List.getElem?_eq_some_iff.1 hj).1
  rw [hcell j hj']
  rw [tnth_at hj'] at hj
  rw [Option.some.inj hj]) hb (by omega) hc (by rw [e]; omega)
 rw [e] at this
 exact this

theorem bytes_run (s : ByteArray) (w : World) : ∃ v' w', (convert 9 22 (.string s)).run Tryd.prog w = .ok v' w' ∧ RowB w' v' (bys s) ∧ Below w.heap.size w w' := by
 refine ⟨_, _, Lib.run_convert_string_bytes w 9 22 5 s (u := .string) Tryd.underlying9 Tryd.underlying22 Tryd.underlying5, ⟨_, _, by rw [bys_length], .inr ⟨w.heap.size, 0, rfl, by rw [bys_length]; exact grownCap_ge _ _ _ _, by rw [Lib.bytesWorld_size]; omega, fun i hi => ?_⟩, bys_range s⟩, ?_⟩
 ·rw [bys_length] at hi
  rw [Nat.zero_add, Lib.bytesWorld_cell w 5 s i hi]
  unfold nth bys
  have hi' : i < s.data.toList.length := by simpa using hi
  rw [List.getD_eq_getElem?_getD, List.getD_eq_getElem?_getD, List.getElem?_map, List.getElem?_eq_getElem hi']
  rfl
 ·refine ⟨?_, ?_, ?_, by rw [Lib.bytesWorld_size]; omega, fun k hk => Lib.bytesWorld_at_old w _ s k hk⟩ <;> simp [Lib.bytesWorld, World.freeze, World.alloc, World.drew, -World.alloc_eq, -World.drew_eq]

set_option maxHeartbeats 400000 in
theorem hashOf_any (v : Value) (ts : List ByteArray) (w : World) (h : RowT w v ts) (hne : ts ≠ []) (hl : ts.length ≤ 1000000) (hs : (cat ts).length ≤ 1000000000) (hK : KTab w) (hp : 0 < w.heap.size) :
 Calls Tryd.prog 33 #[v] w fun e w' => e = .returned (.string (hashS (cat ts))) ∧ Below w.heap.size w w' := by
 have HJ := join_any v ts w h hne hl hs
 have GK : Hid (KTab w) := hK
 clear hK h hl hs hne
 go_enter Tryd.func33, Tryd.ntmps33
 go_wp2_with fail
 refine HJ.mono ?_
 rintro e w1 ⟨rfl, b1⟩
 obtain ⟨v2, w2, hcv, r2, b2⟩ := bytes_run (catS ts) w1
 have R2 : Hid (RowB w2 v2 (bys (catS ts))) := r2
 have B2 : Hid (Below w.heap.size w w2) := b1.trans (b2.mono b1.size)
 clear r2 b2 b1
 go_wp2_with fail
 refine (implHash_any v2 _ w2 R2.out (GK.out.below B2.out hp) (Nat.lt_of_lt_of_le hp B2.out.size)).mono ?_
 rintro e w3 ⟨rfl, b3⟩
 rw [bys_catS]
 go_wp2_with fail
 go_ret
 exact ⟨rfl, B2.out.trans (b3.mono B2.out.size)⟩
theorem hashOf_lit (W : World) (g n : Nat) (hg : W.heap.size = g) (cs : Array Value) (ts : List ByteArray) (hn : ts.length = n) (hcs : cs = (ts.map Value.string).toArray) (h0 : 0 < n) (hl : n ≤ 1000000) (hs : (cat ts).length ≤ 1000000000) (hK : KTab W) (hp : 0 < W.heap.size) :
 Calls Tryd.prog 33 #[.slice (some ⟨g, 0, none⟩) n n] (W.alloc (.cells cs 9)) fun e w' => e = .returned (.string (hashS (cat ts))) ∧ Below W.heap.size W w' := by
 subst hg
 have b0 := bel_new W (.cells cs 9)
 refine (hashOf_any _ ts _ (row_lit W 9 ts cs n hn hcs) (fun e => by rw [e] at hn; simp at hn; omega) (by omega) hs (hK.below b0 hp) (Nat.lt_of_lt_of_le hp b0.size)).mono ?_
 rintro e w' ⟨rfl, b⟩
 exact ⟨rfl, b0.trans (b.mono b0.size)⟩
end Go.Proofs.YtakfniknkejgpaaDoor.Ho

/- impl.secretOf, nodeOf, keyOf: what they answer. -/
namespace Go.Proofs.YtakfniknkejgpaaDoor.Se
open Go.RowKit Go.Proofs.YtakfniknkejgpaaDoor.Sl Go.Proofs.YtakfniknkejgpaaDoor.By Go.Proofs.YtakfniknkejgpaaDoor.Ap Go.Proofs.YtakfniknkejgpaaDoor.Tx Go.Proofs.YtakfniknkejgpaaDoor.Sh Go.Proofs.YtakfniknkejgpaaDoor.Ho

def bSecret : ByteArray := ⟨#[115, 101, 99, 114, 101, 116]⟩
def bNode : ByteArray := ⟨#[110, 111, 100, 101]⟩
def sec (seed : ByteArray) (i b v : Nat) : ByteArray := hashS (bys bSecret ++ bys seed ++ [(i : Int), (b : Int), (v : Int)])
def node (l r : ByteArray) : ByteArray := hashS (bys bNode ++ bys l ++ bys r)
theorem hash_size (xs : List Int) (h : xs.length ≤ 65536) : (hashS xs).size = 32 := by
 unfold hashS
 rw [if_neg (by omega), strOfNums_size]
 show (outTo _ 8).length = 32
 rw [outTo_length]
theorem node_size (l r : ByteArray) (hl : l.size ≤ 32) (hr : r.size ≤ 32) : (node l r).size = 32 := by
 unfold node
 apply hash_size
 rw [List.length_append, List.length_append, bys_length, bys_length, bys_length]
 have : bNode.size = 4 := rfl
 omega
set_option maxHeartbeats 400000 in
theorem nodeOf_any (l r : ByteArray) (w : World) (hl : l.size ≤ 100000) (hr : r.size ≤ 100000) (hK : KTab w) (hp : 0 < w.heap.size) :
 Calls Tryd.prog 72 #[.string l, .string r] w fun e w' => e = .returned (.string (node l r)) ∧ Below w.heap.size w w' := by
 have HE : Hid (cat [bNode, l, r] = bys bNode ++ bys l ++ bys r) := by
  show _ = _
  unfold cat
  simp only [List.flatMap_cons, List.flatMap_nil, List.append_nil]
  rw [List.append_assoc]
 have HL : Hid ((bys bNode ++ bys l ++ bys r).length ≤ 1000000000) := by
  show _ ≤ _
  rw [List.length_append, List.length_append, bys_length, bys_length, bys_length]
  have : bNode.size = 4 := rfl
  omega
 have GK : Hid (KTab w) := hK
 clear hK hl hr
 go_enter Tryd.func72, Tryd.ntmps72
 go_wp2_with fail
 refine (hashOf_lit w _ 3 rfl _ [bNode, l, r] rfl rfl (by decide) (by decide) (by rw [HE.out]; exact HL.out) GK.out hp).mono ?_
 rintro e w3 ⟨rfl, b3⟩
 rw [HE.out]
 go_wp2_with fail
 go_ret
 exact ⟨rfl, b3⟩

end Go.Proofs.YtakfniknkejgpaaDoor.Se

/- impl.keyAt, keysOf: the keys of a seed. -/
namespace Go.Proofs.YtakfniknkejgpaaDoor.Ka
open Go.RowKit Go.Proofs.YtakfniknkejgpaaDoor.Sl Go.Proofs.YtakfniknkejgpaaDoor.By Go.Proofs.YtakfniknkejgpaaDoor.Ap Go.Proofs.YtakfniknkejgpaaDoor.Tx Go.Proofs.YtakfniknkejgpaaDoor.Sh Go.Proofs.YtakfniknkejgpaaDoor.Ho Go.Proofs.YtakfniknkejgpaaDoor.Se

def hh (seed : ByteArray) (i b v : Nat) : ByteArray := hashS (bys (sec seed i b v))
def hin (seed : ByteArray) (i b : Nat) : Nat → List ByteArray
 | 0 => []
 | m + 1 => hin seed i b m ++ [hh seed i b m]
end Go.Proofs.YtakfniknkejgpaaDoor.Ka
