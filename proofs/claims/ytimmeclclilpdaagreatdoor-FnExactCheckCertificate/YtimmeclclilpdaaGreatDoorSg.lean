/- A signature that is being made: its block and its three lists. -/
import Derived.Test.YtimmeclclilpdaaGreatDoorPa
import Derived.Test.YtimmeclclilpdaaGreatDoorMb2
namespace Go.Proofs.YtimmeclclilpdaaGreatDoor.Sg
open Go.RowKit Go.Proofs.YtimmeclclilpdaaGreatDoor.Sl Go.Proofs.YtimmeclclilpdaaGreatDoor.By Go.Proofs.YtimmeclclilpdaaGreatDoor.Ap Go.Proofs.YtimmeclclilpdaaGreatDoor.Tx Go.Proofs.YtimmeclclilpdaaGreatDoor.Sh Go.Proofs.YtimmeclclilpdaaGreatDoor.Ho Go.Proofs.YtimmeclclilpdaaGreatDoor.Se Go.Proofs.YtimmeclclilpdaaGreatDoor.Ka Go.Proofs.YtimmeclclilpdaaGreatDoor.Sx Go.Proofs.YtimmeclclilpdaaGreatDoor.Hf Go.Proofs.YtimmeclclilpdaaGreatDoor.Sa Go.Proofs.YtimmeclclilpdaaGreatDoor.Kx Go.Proofs.YtimmeclclilpdaaGreatDoor.Lv Go.Proofs.YtimmeclclilpdaaGreatDoor.Cr Go.Proofs.YtimmeclclilpdaaGreatDoor.Pa Go.Proofs.YtimmeclclilpdaaGreatDoor.Mb

/-- The bit as a number; the secrets that are shown; the hashes of the others. -/
def bn (d : ByteArray) (k : Nat) : Nat := (bitC d k - 48).toNat
theorem bn_two (d : ByteArray) (k : Nat) : (bn d k = 0 ∨ bn d k = 1) ∧ bitC d k = 48 + (bn d k : Int) := by
  unfold bn
  rcases bitC_two d k with e | e <;> rw [e] <;> decide
def onesTo (seed : ByteArray) (i : Nat) (d : ByteArray) : Nat → List ByteArray
  | 0 => []
  | k + 1 => onesTo seed i d k ++ [sec seed i k (bn d k)]
def restTo (seed : ByteArray) (i : Nat) (d : ByteArray) : Nat → List ByteArray
  | 0 => []
  | k + 1 => restTo seed i d k ++ [hashS (bys (sec seed i k (1 - bn d k)))]
theorem onesTo_length (seed : ByteArray) (i : Nat) (d : ByteArray) : ∀ k, (onesTo seed i d k).length = k
  | 0 => rfl
  | k + 1 => by unfold onesTo; rw [List.length_append, onesTo_length seed i d k]; rfl
theorem restTo_length (seed : ByteArray) (i : Nat) (d : ByteArray) : ∀ k, (restTo seed i d k).length = k
  | 0 => rfl
  | k + 1 => by unfold restTo; rw [List.length_append, restTo_length seed i d k]; rfl
theorem str_at (zs : List Int) (s : ByteArray) (he : s = strOfNums zs) (k : Nat) (hk : k < s.size) (z : Int) (hz : zs[k]? = some z) (h0 : 0 ≤ z ∧ z ≤ 255) : ((s[k]'hk).toNat : Int) = z := by
  subst he
  have h2 : (strOfNums zs).data.toList[k]? = some (UInt8.ofNat z.toNat) := by
    rw [strOfNums_data, List.getElem?_map, hz]
    rfl
  have h3 : (strOfNums zs).data.toList[k]? = some ((strOfNums zs)[k]'hk) := by
    have hk' : k < (strOfNums zs).data.toList.length := by simpa using hk
    rw [List.getElem?_eq_getElem hk']
    rfl
  rw [Option.some.inj (h3.symm.trans h2), UInt8.toNat_ofNat_of_lt' (by unfold UInt8.size; omega)]
  omega
theorem bitC_range (d : ByteArray) (k : Nat) : 0 ≤ bitC d k ∧ bitC d k ≤ 255 := by
  rcases bitC_two d k with e | e <;> rw [e] <;> decide
theorem mb_at (msg s : ByteArray) (hs : s = mbits msg) (k : Nat) (h : k < 32) (hk : k < s.size) : ((s[k]'hk).toNat : Int) = bitC (dig msg) k :=
  str_at (bitsU (dig msg) 32) s hs k hk _ (bitsU_at (dig msg) 32 k h) (bitC_range _ _)

set_option maxRecDepth 100000 in
theorem bitAt_any (msg s : ByteArray) (k : Nat) (w : World) (hm : s = mbits msg) (hk : k < 32) :
    Calls Tryz.prog 102 #[.string s, .int .i64 k] w fun e w' => e = .returned (.int .i64 (bn (dig msg) k : Int)) ∧ w = w' := by
  have hs : s.size = 32 := by rw [hm]; exact mbits_size msg
  have h1 : k < s.size := by omega
  have h2 : (k : Int) < (s.size : Int) := by omega
  have h3 := mb_at msg s hm k hk h1
  obtain ⟨h4, h5⟩ := bn_two (dig msg) k
  have HE : Hid (((s[k]'h1).toNat : Int) = 48 + (bn (dig msg) k : Int)) := by show _ = _; rw [h3, h5]
  have HT : Hid (bn (dig msg) k = 0 ∨ bn (dig msg) k = 1) := h4
  clear h3 h4 h5 hs hm
  go_enter Tryz.func102, Tryz.ntmps102
  go_wp2_with fail
  go_ret
  refine ⟨Hf.ret_int ?_, rfl⟩
  rw [HE.out]
  rcases HT.out with e | e <;> rw [e] <;> decide

/-- A block of four cells: a signature; its three lists are the call's own, each in a block of its own. -/
structure SigAt (w : World) (B p : Nat) (i : Int) (va vb vc : Value) (ta tb tc : List ByteArray) : Prop where
  blk : w.heap[p]? = some (.cells #[.int .i64 i, va, vb, vc] 37 (0, 0))
  base : B ≤ p
  oa : OwnS w B va ta
  ob : OwnS w B vb tb
  oc : OwnS w B vc tc
  ab : Away va vb
  ac : Away va vc
  bc : Away vb vc
  pa : ∀ k, va.ownBlock = some k → k ≠ p
  pb : ∀ k, vb.ownBlock = some k → k ≠ p
  pc : ∀ k, vc.ownBlock = some k → k ≠ p
theorem asym {u v : Value} (h : Away u v) : Away v u := fun k hv hu => h k hu hv
theorem SigAt.lt {w : World} {B p : Nat} {i : Int} {va vb vc : Value} {ta tb tc : List ByteArray} (h : SigAt w B p i va vb vc ta tb tc) : p < w.heap.size := (Array.getElem?_eq_some_iff.1 h.blk).1
theorem SigAt.below {w w' : World} {B p : Nat} {i : Int} {va vb vc : Value} {ta tb tc : List ByteArray} (h : SigAt w B p i va vb vc ta tb tc) (hb : Below w.heap.size w w') : SigAt w' B p i va vb vc ta tb tc :=
  ⟨(hb.block p h.lt).trans h.blk, h.base, h.oa.below hb, h.ob.below hb, h.oc.below hb, h.ab, h.ac, h.bc, h.pa, h.pb, h.pc⟩
theorem SigAt.drew {w : World} {B p : Nat} {i : Int} {va vb vc : Value} {ta tb tc : List ByteArray} (h : SigAt w B p i va vb vc ta tb tc) : SigAt w.drew B p i va vb vc ta tb tc := ⟨h.blk, h.base, h.oa, h.ob, h.oc, h.ab, h.ac, h.bc, h.pa, h.pb, h.pc⟩
theorem kp_away {w w' : World} {v u u' : Value} (hk : Kp w w' u u') (hlt : ∀ k, v.ownBlock = some k → k < w.heap.size) (h : Away v u) : Away v u' := fun k hv hu => hk.away k (hlt k hv) (fun e => h k hv e.symm) hu.symm
theorem own_set {w : World} {B p j : Nat} {v x : Value} {ts : List ByteArray} (h : OwnS w B v ts) (hp : ∀ k, v.ownBlock = some k → k ≠ p) : OwnS (w.setCell ⟨p, j, none⟩ x) B v ts := by
  obtain ⟨hl, h⟩ := h
  refine ⟨hl, ?_⟩
  rcases h with h | ⟨g, cap, cur, rfl, hB, hgb, h⟩
  · exact .inl h
  · exact .inr ⟨g, cap, cur, rfl, hB, (blk_far (hp g rfl) j x).trans hgb, h⟩
/-- One of its lists is appended to, and stored. -/
theorem SigAt.setA {w w' : World} {B p : Nat} {i : Int} {va vb vc va' : Value} {ta tb tc ta' : List ByteArray} (h : SigAt w B p i va vb vc ta tb tc) (hk : Kp w w' va va') (ho : OwnS w' B va' ta') :
    SigAt (w'.setCell ⟨p, 1, none⟩ va') B p i va' vb vc ta' tb tc := by
  have hp : w'.heap[p]? = some (.cells #[.int .i64 i, va, vb, vc] 37 (0, 0)) := (hk.block p h.lt (fun e => h.pa p e.symm rfl)).trans h.blk
  have pa' : ∀ k, va'.ownBlock = some k → k ≠ p := fun k hv e => by subst e; exact hk.away k h.lt (fun e => h.pa k e.symm rfl) hv.symm
  have lb := fun k hk => (OwnS.lt' h.ob k hk).2
  have lc := fun k hk => (OwnS.lt' h.oc k hk).2
  exact ⟨blk_set hp 1 va', h.base, own_set ho pa', own_set (h.ob.kept (asym h.ab) hk) h.pb, own_set (h.oc.kept (asym h.ac) hk) h.pc, asym (kp_away hk lb (asym h.ab)), asym (kp_away hk lc (asym h.ac)), h.bc, pa', h.pb, h.pc⟩
theorem SigAt.setB {w w' : World} {B p : Nat} {i : Int} {va vb vc vb' : Value} {ta tb tc tb' : List ByteArray} (h : SigAt w B p i va vb vc ta tb tc) (hk : Kp w w' vb vb') (ho : OwnS w' B vb' tb') :
    SigAt (w'.setCell ⟨p, 2, none⟩ vb') B p i va vb' vc ta tb' tc := by
  have hp : w'.heap[p]? = some (.cells #[.int .i64 i, va, vb, vc] 37 (0, 0)) := (hk.block p h.lt (fun e => h.pb p e.symm rfl)).trans h.blk
  have pb' : ∀ k, vb'.ownBlock = some k → k ≠ p := fun k hv e => by subst e; exact hk.away k h.lt (fun e => h.pb k e.symm rfl) hv.symm
  have la := fun k hk => (OwnS.lt' h.oa k hk).2
  have lc := fun k hk => (OwnS.lt' h.oc k hk).2
  exact ⟨blk_set hp 2 vb', h.base, own_set (h.oa.kept h.ab hk) h.pa, own_set ho pb', own_set (h.oc.kept (asym h.bc) hk) h.pc, kp_away hk la h.ab, h.ac, asym (kp_away hk lc (asym h.bc)), h.pa, pb', h.pc⟩
theorem SigAt.setC {w w' : World} {B p : Nat} {i : Int} {va vb vc vc' : Value} {ta tb tc tc' : List ByteArray} (h : SigAt w B p i va vb vc ta tb tc) (hk : Kp w w' vc vc') (ho : OwnS w' B vc' tc') :
    SigAt (w'.setCell ⟨p, 3, none⟩ vc') B p i va vb vc' ta tb tc' := by
  have hp : w'.heap[p]? = some (.cells #[.int .i64 i, va, vb, vc] 37 (0, 0)) := (hk.block p h.lt (fun e => h.pc p e.symm rfl)).trans h.blk
  have pc' : ∀ k, vc'.ownBlock = some k → k ≠ p := fun k hv e => by subst e; exact hk.away k h.lt (fun e => h.pc k e.symm rfl) hv.symm
  have la := fun k hk => (OwnS.lt' h.oa k hk).2
  have lb := fun k hk => (OwnS.lt' h.ob k hk).2
  exact ⟨blk_set hp 3 vc', h.base, own_set (h.oa.kept h.ac hk) h.pa, own_set (h.ob.kept h.bc hk) h.pb, own_set ho pc', h.ab, kp_away hk la h.ac, kp_away hk lb h.bc, h.pa, h.pb, pc'⟩
/-- What a function that answers a signature answers. -/
structure SigV (w : World) (B : Nat) (va vb vc : Value) (ta tb tc : List ByteArray) : Prop where
  oa : OwnS w B va ta
  ob : OwnS w B vb tb
  oc : OwnS w B vc tc
  ab : Away va vb
  ac : Away va vc
  bc : Away vb vc
theorem SigAt.val {w : World} {B p : Nat} {i : Int} {va vb vc : Value} {ta tb tc : List ByteArray} (h : SigAt w B p i va vb vc ta tb tc) : SigV w B va vb vc ta tb tc := ⟨h.oa, h.ob, h.oc, h.ab, h.ac, h.bc⟩
theorem SigV.below {w w' : World} {B : Nat} {va vb vc : Value} {ta tb tc : List ByteArray} (h : SigV w B va vb vc ta tb tc) (hb : Below w.heap.size w w') : SigV w' B va vb vc ta tb tc := ⟨h.oa.below hb, h.ob.below hb, h.oc.below hb, h.ab, h.ac, h.bc⟩
theorem SigV.mono {w : World} {B B' : Nat} {va vb vc : Value} {ta tb tc : List ByteArray} (h : SigV w B va vb vc ta tb tc) (hb : B' ≤ B) : SigV w B' va vb vc ta tb tc := ⟨h.oa.mono hb, h.ob.mono hb, h.oc.mono hb, h.ab, h.ac, h.bc⟩
theorem SigV.set {w : World} {B p j : Nat} {x va vb vc : Value} {ta tb tc : List ByteArray} (h : SigV w B va vb vc ta tb tc) (hp : p < B) : SigV (w.setCell ⟨p, j, none⟩ x) B va vb vc ta tb tc :=
  ⟨own_set h.oa (fun k hk e => by have := (OwnS.lt' h.oa k hk).1; omega), own_set h.ob (fun k hk e => by have := (OwnS.lt' h.ob k hk).1; omega), own_set h.oc (fun k hk e => by have := (OwnS.lt' h.oc k hk).1; omega), h.ab, h.ac, h.bc⟩
theorem SigV.nil (w : World) (B : Nat) : SigV w B (.slice none 0 0) (.slice none 0 0) (.slice none 0 0) [] [] [] := ⟨OwnS.nil _ _, OwnS.nil _ _, OwnS.nil _ _, (fun _ h => by cases h), (fun _ h => by cases h), (fun _ h => by cases h)⟩
end Go.Proofs.YtimmeclclilpdaaGreatDoor.Sg
