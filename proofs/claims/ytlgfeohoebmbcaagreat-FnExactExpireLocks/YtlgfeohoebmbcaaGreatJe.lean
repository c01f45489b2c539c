/- The keys of a book's maps in their order; what a map tells. -/
import Derived.Test.YtlgfeohoebmbcaaGreatJb
import Derived.Test.YtlgfeohoebmbcaaGreatShz
namespace Go.Proofs.YtlgfeohoebmbcaaGreat.Je
open Go.RowKit Go.Proofs.YtlgfeohoebmbcaaGreat.Sl Go.Proofs.YtlgfeohoebmbcaaGreat.By Go.Proofs.YtlgfeohoebmbcaaGreat.Ap Go.Proofs.YtlgfeohoebmbcaaGreat.Tb Go.Proofs.YtlgfeohoebmbcaaGreat.Tw Go.Proofs.YtlgfeohoebmbcaaGreat.Mw Go.Proofs.YtlgfeohoebmbcaaGreat.Wa Go.Proofs.YtlgfeohoebmbcaaGreat.Bk Go.Proofs.YtlgfeohoebmbcaaGreat.Tp Go.Proofs.YtlgfeohoebmbcaaGreat.Da Go.Proofs.YtlgfeohoebmbcaaGreat.Ja Go.Proofs.YtlgfeohoebmbcaaGreat.Jb
open Go.Proofs.YtlgfeohoebmbcaaGreat.Lo (LkA uV clL OwnL own_block kind_ne Apart nest2)
open Go.Proofs.YtlgfeohoebmbcaaGreat.Tx (blk_cell blk_set blk_far blk_new bel_new)
open Go.Shelf Go.Sort Go.Maps
theorem keysL_any (mb : Option Nat) (W : World) : Calls Tryz.prog 99 #[.map mb] W fun e w' => e = .returned (.func (.func 123) #[] #[.pointer (some ⟨W.heap.size, 0, none⟩)]) ∧ w' = W.alloc (.cells #[.map mb] 98) :=
  (callsIn_wide (n := 5)).1 (AnyZ.keys_in Sz.keysA Fence.wide 5 trivial rfl mb W)
theorem sortsL (m : Nat) : AnyZ.SortsIn Tryz.prog Sz.sortedA_ren Fence.wide m :=
  ⟨fun blk off cap ss W hH hblk hsz => callsIn_wide.2 (AnyM.slices_Sort_string Sz.sortA blk off cap ss W hH hblk hsz), fun p cap W => callsIn_wide.2 (AnyM.slices_Sort_string_none Sz.sortA p cap W)⟩
theorem sortedL_any (b nn : Nat) (D0 : DataW Value) (w : World) (hown : w.ownsMap Tryz.prog 9 RV b nn D0) (hmax : Maps.size D0 ≤ maxLen) (hbytes : Maps.size D0 * 16 ≤ 140737488355328) :
    Calls Tryz.prog 98 #[.func (.func 123) #[] #[.pointer (some ⟨w.heap.size, 0, none⟩)]] (w.alloc (.cells #[.map (some b)] 98)) fun e w' => ∃ (v : Value) (ss : List (List UInt8)), e = .returned v ∧ ss.Perm (strKeys D0) ∧
      w'.ownsRow (w.heap.size + 1) 9 1 v ss.length ((ss.mergeSort (fun x y => decide (x ≤ y))).map encStr) ∧ Below (w.heap.size + 1) (w.alloc (.cells #[.map (some b)] 98)) w' := by
  refine (callsIn_wide (n := 5)).1 ?_
  have hbl := hown.lt
  have hseq : SeqGives Fence.wide 2 Tryz.prog 123 #[.pointer (some ⟨w.heap.size, 0, none⟩)] encStr (fun ss => ss.Perm (strKeys D0)) (Maps.size D0) (w.alloc (.cells #[.map (some b)] 98)) :=
    AnyZ.keys_gives (ρ := Sz.keysA_ren) { Sz.keysA with } Fence.wide _ trivial rfl (by omega) w.heap.size b nn D0 _ (by simp) (by simp) (by
      obtain ⟨es, clock, hb, Ft, hs, hD⟩ := hown
      exact ⟨es, clock, (Below.heap_alloc _ _ b hbl).trans hb, Ft, hs, hD⟩)
  have cS := AnyZ.sorted_in Sz.sortedA Fence.wide 5 trivial trivial trivial trivial rfl (by omega) (sortsL _) (enters_of Tryz.func122 (by kernel_rfl) rfl) 123 #[.pointer (some ⟨w.heap.size, 0, none⟩)] trivial (enters_of Tryz.func123 (by kernel_rfl) rfl) _ _ hmax hbytes _ hseq
  refine CallsIn.mono cS ?_
  rintro e w' ⟨v, ss, rfl, hS, hrow, _, hb⟩
  rw [show (w.alloc (.cells #[.map (some b)] 98)).heap.size = w.heap.size + 1 from Bk.size_new _ _] at hrow hb
  exact ⟨v, ss, rfl, hS, hrow, hb⟩
theorem keysS_any (mb : Option Nat) (W : World) : Calls Tryz.prog 102 #[.map mb] W fun e w' => e = .returned (.func (.func 126) #[] #[.pointer (some ⟨W.heap.size, 0, none⟩)]) ∧ w' = W.alloc (.cells #[.map mb] 100) :=
  (callsIn_wide (n := 5)).1 (AnyZI.keys_in Sz.keysB Fence.wide 5 trivial rfl mb W)
theorem sortsS (m : Nat) : AnyZI.SortsIn Tryz.prog Sz.sortedB_ren Fence.wide m :=
  ⟨fun blk off cap ss W hH hblk hsz => callsIn_wide.2 (AnyM.slices_Sort_int Sz.sortB blk off cap ss W hH hblk hsz), fun p cap W => callsIn_wide.2 (AnyM.slices_Sort_int_none Sz.sortB p cap W)⟩
theorem sortedS_any (b nn : Nat) (D0 : DataW Value) (w : World) (hown : w.ownsMap Tryz.prog 3 RV b nn D0) (hmax : Maps.size D0 ≤ maxLen) (hbytes : Maps.size D0 * 8 ≤ 140737488355328) :
    Calls Tryz.prog 101 #[.func (.func 126) #[] #[.pointer (some ⟨w.heap.size, 0, none⟩)]] (w.alloc (.cells #[.map (some b)] 100)) fun e w' => ∃ (v : Value) (ss : List Int), e = .returned v ∧ ss.Perm (intKeys D0) ∧
      w'.ownsRow (w.heap.size + 1) 3 1 v ss.length ((ss.mergeSort (fun x y => decide (x ≤ y))).map encZ) ∧ Below (w.heap.size + 1) (w.alloc (.cells #[.map (some b)] 100)) w' := by
  refine (callsIn_wide (n := 5)).1 ?_
  have hbl := hown.lt
  have hseq : SeqGives Fence.wide 2 Tryz.prog 126 #[.pointer (some ⟨w.heap.size, 0, none⟩)] encZ (fun ss => ss.Perm (intKeys D0)) (Maps.size D0) (w.alloc (.cells #[.map (some b)] 100)) :=
    AnyZI.keys_gives (ρ := Sz.keysB_ren) { Sz.keysB with } Fence.wide _ trivial rfl (by omega) w.heap.size b nn D0 _ (by simp) (by simp) (by
      obtain ⟨es, clock, hb, Ft, hs, hD⟩ := hown
      exact ⟨es, clock, (Below.heap_alloc _ _ b hbl).trans hb, Ft, hs, hD⟩)
  have cS := AnyZI.sorted_in Sz.sortedB Fence.wide 5 trivial trivial trivial trivial rfl (by omega) (sortsS _) (enters_of Tryz.func125 (by kernel_rfl) rfl) 126 #[.pointer (some ⟨w.heap.size, 0, none⟩)] trivial (enters_of Tryz.func126 (by kernel_rfl) rfl) _ _ hmax hbytes _ hseq
  refine CallsIn.mono cS ?_
  rintro e w' ⟨v, ss, rfl, hS, hrow, _, hb⟩
  rw [show (w.alloc (.cells #[.map (some b)] 100)).heap.size = w.heap.size + 1 from Bk.size_new _ _] at hrow hb
  exact ⟨v, ss, rfl, hS, hrow, hb⟩
theorem zeroL (W : World) : (zeroValue 95).run Tryz.prog W = .ok (.agg #[.string ⟨#[]⟩, .int .i64 0, .int .i64 0, .int .i64 0, .slice none 0 0]) W := Tryz.zeroValue95 W
theorem zeroS (W : World) : (zeroValue 113).run Tryz.prog W = .ok (.agg #[.int .i64 0, .int .i64 0, .int .i64 0, .int .i64 0, .int .i64 0, .int .i64 0]) W := Tryz.zeroValue113 W
theorem rv_inv {v v' : Value} {d : DataW Value} {ps : List MemPlace} (h : RV v = some (d, ps)) (hd : d = .held v') : v = v' := by
  unfold RV at h
  injection h with h
  injection h with h1 h2
  rw [hd] at h1
  injection h1
/-- A name's lock; a client's Seen. -/
theorem lookL {w : World} {b n : Nat} {ps : List LkA} (hm : MapL w b n (mL ps)) (ha : NmA (ps.map (·.1))) {p : LkA} (hp : p ∈ ps) (hs : p.1.n.size ≤ 1000000) : (Instr.lookup 98 (.map (some b)) (.string p.1.n) false).run Tryz.prog w = .ok (lkV p.1 (uV p)) w := by
  obtain ⟨v, q, hrun, hv⟩ := hm.lookup (Maps.string_keyed Tryz.underlying9) Tryz.underlying98 (zeroL w) (zd := .held (.agg #[.string ⟨#[]⟩, .int .i64 0, .int .i64 0, .int .i64 0, .slice none 0 0])) (zp := []) rfl (WideMaps.keyOf_string_mk Tryz.underlying9 (s := p.1.n) (by unfold maxLen; omega))
  rw [rv_inv hv (at_hit key_L ha.asc hp _)] at hrun
  exact hrun
theorem lookS {w : World} {b n : Nat} {ss : List Sn} (hm : MapS w b n (mS ss)) (ha : ClA ss) {s : Sn} (hp : s ∈ ss) (hs : 0 ≤ s.c ∧ s.c ≤ 255) : (Instr.lookup 100 (.map (some b)) (.int .i64 s.c) false).run Tryz.prog w = .ok (snV s) w := by
  obtain ⟨v, q, hrun, hv⟩ := hm.lookup (Maps.int_keyed Tryz.underlying3) Tryz.underlying100 (zeroS w) (zd := .held (.agg #[.int .i64 0, .int .i64 0, .int .i64 0, .int .i64 0, .int .i64 0, .int .i64 0])) (zp := []) rfl (Maps.keyOf_int_mk Tryz.underlying3 (wf_small hs))
  rw [rv_inv hv (at_hit key_S ha.asc hp _)] at hrun
  exact hrun
/-- The same with 'ok'. -/
theorem lookL_ok {w : World} {b n : Nat} {ps : List LkA} (hm : MapL w b n (mL ps)) (ha : NmA (ps.map (·.1))) {p : LkA} (hp : p ∈ ps) (hs : p.1.n.size ≤ 1000000) : (Instr.lookup 98 (.map (some b)) (.string p.1.n) true).run Tryz.prog w = .ok (.tuple #[lkV p.1 (uV p), .bool true]) w := by
  obtain ⟨v, q, hrun, hv⟩ := hm.look_ok (Maps.string_keyed Tryz.underlying9) Tryz.underlying98 (zeroL w) (zd := .held (.agg #[.string ⟨#[]⟩, .int .i64 0, .int .i64 0, .int .i64 0, .slice none 0 0])) (zp := []) rfl (WideMaps.keyOf_string_mk Tryz.underlying9 (s := p.1.n) (by unfold maxLen; omega))
  rw [rv_inv hv (at_hit key_L ha.asc hp _), show Maps.has (mL ps) (.string p.1.n.data.toList) = true from has_hit key_L hp] at hrun
  exact hrun
theorem lookL_no {w : World} {b n : Nat} {ps : List LkA} (hm : MapL w b n (mL ps)) {nm : ByteArray} (hp : ∀ p ∈ ps, p.1.n ≠ nm) (hs : nm.size ≤ 1000000) : (Instr.lookup 98 (.map (some b)) (.string nm) true).run Tryz.prog w = .ok (.tuple #[.agg #[.string ⟨#[]⟩, .int .i64 0, .int .i64 0, .int .i64 0, .slice none 0 0], .bool false]) w := by
  obtain ⟨v, q, hrun, hv⟩ := hm.look_ok (Maps.string_keyed Tryz.underlying9) Tryz.underlying98 (zeroL w) (zd := .held (.agg #[.string ⟨#[]⟩, .int .i64 0, .int .i64 0, .int .i64 0, .slice none 0 0])) (zp := []) rfl (WideMaps.keyOf_string_mk Tryz.underlying9 (s := nm) (by unfold maxLen; omega))
  have hne : ∀ p ∈ ps, (eL p).1 ≠ kS nm := fun p hpp e => hp p hpp (Lp.toList_inj (by injection e))
  rw [rv_inv hv (at_miss hne _), show Maps.has (mL ps) (.string nm.data.toList) = false from has_miss hne] at hrun
  exact hrun
theorem lookS_ok {w : World} {b n : Nat} {ss : List Sn} (hm : MapS w b n (mS ss)) (ha : ClA ss) {s : Sn} (hp : s ∈ ss) (hs : 0 ≤ s.c ∧ s.c ≤ 255) : (Instr.lookup 100 (.map (some b)) (.int .i64 s.c) true).run Tryz.prog w = .ok (.tuple #[snV s, .bool true]) w := by
  obtain ⟨v, q, hrun, hv⟩ := hm.look_ok (Maps.int_keyed Tryz.underlying3) Tryz.underlying100 (zeroS w) (zd := .held (.agg #[.int .i64 0, .int .i64 0, .int .i64 0, .int .i64 0, .int .i64 0, .int .i64 0])) (zp := []) rfl (Maps.keyOf_int_mk Tryz.underlying3 (wf_small hs))
  rw [rv_inv hv (at_hit key_S ha.asc hp _), show Maps.has (mS ss) (.int .i64 s.c) = true from has_hit key_S hp] at hrun
  exact hrun
theorem lookS_no {w : World} {b n : Nat} {ss : List Sn} (hm : MapS w b n (mS ss)) {c : Int} (hp : ∀ s ∈ ss, s.c ≠ c) (hs : 0 ≤ c ∧ c ≤ 255) : (Instr.lookup 100 (.map (some b)) (.int .i64 c) true).run Tryz.prog w = .ok (.tuple #[.agg #[.int .i64 0, .int .i64 0, .int .i64 0, .int .i64 0, .int .i64 0, .int .i64 0], .bool false]) w := by
  obtain ⟨v, q, hrun, hv⟩ := hm.look_ok (Maps.int_keyed Tryz.underlying3) Tryz.underlying100 (zeroS w) (zd := .held (.agg #[.int .i64 0, .int .i64 0, .int .i64 0, .int .i64 0, .int .i64 0, .int .i64 0])) (zp := []) rfl (Maps.keyOf_int_mk Tryz.underlying3 (wf_small hs))
  have hne : ∀ s ∈ ss, (eS s).1 ≠ kI c := fun s hss e => hp s hss (by injection e)
  rw [rv_inv hv (at_miss hne _), show Maps.has (mS ss) (.int .i64 c) = false from has_miss hne] at hrun
  exact hrun
end Go.Proofs.YtlgfeohoebmbcaaGreat.Je
