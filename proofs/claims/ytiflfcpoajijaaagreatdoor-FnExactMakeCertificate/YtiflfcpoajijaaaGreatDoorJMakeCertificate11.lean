/- Texts put together: Fu, Kx, Lv, Rt3, Cr2. -/
import Derived.Test.YtiflfcpoajijaaaGreatDoorTz
import Derived.Lib.SlBytesConst
import Derived.Test.YtiflfcpoajijaaaGreatDoorJMakeCertificate10
import Derived.Deep.RegionLaw
/- Bytes that began as a literal: the first append makes a row of the call's own. -/
namespace Go.Proofs.YtiflfcpoajijaaaGreatDoor.Fu
open Go.RowKit Go.Proofs.YtiflfcpoajijaaaGreatDoor.Sl Go.Proofs.YtiflfcpoajijaaaGreatDoor.By Go.Proofs.YtiflfcpoajijaaaGreatDoor.Ap Go.Proofs.YtiflfcpoajijaaaGreatDoor.Tx

/-- The slice is a row with no room behind, whatever its mark. -/
def Full (w : World) (B : Nat) (v : Value) (zs : List Int) : Prop :=
  ∃ g, v = .slice (some ⟨g, 0, none⟩) zs.length zs.length ∧ B ≤ g ∧ g < w.heap.size ∧ ∀ j, j < zs.length → w.cell? ⟨g, j, none⟩ = some (.int .u8 (nth zs j))
def OwnF (w : World) (B : Nat) (v : Value) (zs : List Int) : Prop := OwnB 5 w B v zs ∨ Full w B v zs
theorem OwnF.below {w w' : World} {B : Nat} {v : Value} {zs : List Int} (h : OwnF w B v zs) (hb : Below w.heap.size w w') : OwnF w' B v zs := by
  rcases h with h | ⟨g, e, hB, hg, hc⟩
  · exact .inl (own_below h hb)
  · exact .inr ⟨g, e, hB, Nat.lt_of_lt_of_le hg hb.size, fun j hj => (hb.cell (p := ⟨g, j, none⟩) hg).trans (hc j hj)⟩
theorem OwnF.rowB {w : World} {B : Nat} {v : Value} {zs : List Int} (h : OwnF w B v zs) (hr : ∀ z ∈ zs, 0 ≤ z ∧ z ≤ 255) : RowB w v zs := by
  rcases h with h | ⟨g, rfl, hB, hg, hc⟩
  · exact own_rowB h hr
  · refine ⟨_, _, rfl, .inr ⟨g, 0, rfl, Nat.le_refl _, hg, fun i hi => ?_⟩, hr⟩
    rw [Nat.zero_add]
    exact hc i hi
theorem OwnF.drew {w : World} {B : Nat} {v : Value} {zs : List Int} (h : OwnF w B v zs) : OwnF w.drew B v zs := h
/-- '[]byte("..")' of a constant. -/
theorem full_lit (w : World) (zs : List Int) (n : Nat) (hn : zs.length = n) (cs : Array Value) (hcs : cs = (zs.map (Value.int .u8)).toArray) (fr : Nat × Nat) : OwnF (w.alloc (.cells cs 5 fr)) w.heap.size (.slice (some ⟨w.heap.size, 0, none⟩) n n) zs := by
  subst hn hcs
  refine .inr ⟨w.heap.size, rfl, Nat.le_refl _, by simp, fun j hj => ?_⟩
  rw [Joins.cell_of_block (heap_alloc_new w _) j, List.getElem?_toArray, List.getElem?_map, List.getElem?_eq_getElem hj]
  unfold nth
  rw [List.getD_eq_getElem?_getD, List.getElem?_eq_getElem hj]
  rfl
theorem run_strF {P : Program} {i : TypeInfo} (t tx ty : TypeId) (ht : P.underlying t = some (.slice 5)) (htx : P.underlying tx = some .string) (hi : P.info? 5 = some i) (hz : i.zero = some (.int .u8 0)) (hsize : i.size = 1) (hby : i.bytes = 1)
    (B : Nat) (W : World) (v : Value) (s : ByteArray) (zs : List Int) (hown : OwnF W B v zs) (hB : B ≤ W.heap.size) (hlen : zs.length + s.size ≤ 1000000000) (hs : 0 < s.size) :
    ∃ v' w', (Builtin.append_ #[t, tx] ty #[v, .string s]).run P W = .ok v' w' ∧ OwnB 5 w' B v' (zs ++ bys s) ∧ Below B W w' := by
  rcases hown with hown | ⟨g, rfl, hg, hlt, hc⟩
  · obtain ⟨v', w', h1, h2, h3⟩ := run_str (P := P) t tx ty ht htx hi hz hsize hby B W v s zs hown hB (by omega)
    exact ⟨v', w', h1, h2, h3.below hown hB⟩
  · have holds : ∀ j u, (zs.map (Value.int .u8))[j]? = some u → W.cell? ((⟨g, 0, none⟩ : Addr).add j) = some u := by
      intro j u hj
      have hj' : j < zs.length := by have := (List.getElem?_eq_some_iff.1 hj).1; simpa using this
      rw [addr_add, Nat.zero_add, hc j hj', ← hj, List.getElem?_map, List.getElem?_eq_getElem hj']
      unfold nth
      rw [List.getD_eq_getElem?_getD, List.getElem?_eq_getElem hj']
      rfl
    have hr := Lib.run_append_grow_string (P := P) W t tx ty 5 i (.int .u8 0) ht htx hi hz ⟨g, 0, none⟩ zs.length zs.length (zs.map (Value.int .u8)) (by rw [hsize]; simp) holds s (by omega) (by omega) (by rw [hby]; exact growslice_fits (by omega) (by omega))
    refine ⟨_, _, hr, ?_, ⟨rfl, rfl, rfl, by simp, fun k hk => heap_alloc_old W.drew _ (show k < W.heap.size by omega)⟩⟩
    have hge := grownCap_ge W (zs.length + s.size) zs.length 5
    have hcm : grownCap W (zs.length + s.size) zs.length 5 ≤ maxLen := grownCap_le_maxLen W _ _ _ (by unfold maxLen; omega)
    have hl : (zs ++ bys s).length = zs.length + s.size := by rw [List.length_append, bys_length]
    unfold OwnB
    rw [hl, List.map_append, ← str_cells]
    have hlen2 : (zs.map (Value.int .u8) ++ Lib.strCells s).length = (zs.length + s.size) * 1 := by rw [List.length_append, List.length_map, Lib.strCells_length, Nat.mul_one]
    refine ⟨hlen2, .inr ⟨W.heap.size, _, _, rfl, hB, heap_alloc_new W.drew _, hge, hcm, ?_, ?_⟩⟩
    · have hz1 : (Value.int IntKind.u8 0).cells.size = 1 := rfl
      simp only [Array.size_append, List.size_toArray, size_zeroCells, hz1, List.length_map, Lib.strCells_length]
      omega
    · simp only [Array.toList_append, List.append_assoc]
      rw [← List.append_assoc, ← hlen2]
      exact List.take_left
theorem list_strF {P : Program} {i : TypeInfo} {ops : Array Oper} {rest : List Oper} {o : Oper} {a : Act} {Q : Exit → Act → World → Prop} (hgd : o.guard = none) (s x : Operand) (t tx : TypeId) (ho : o.op = .call { callee := .builtin .append, args := #[s, x], argTypes := #[t, tx] }) (ht : P.underlying t = some (.slice 5)) (htx : P.underlying tx = some .string) (hi : P.info? 5 = some i) (hz : i.zero = some (.int .u8 0))
    (hsize : i.size = 1) (hby : i.bytes = 1) (B : Nat) (W : World) (v : Value) (st : ByteArray) (zs : List Int) (hs : a.eval s = v) (hx : a.eval x = .string st) (hown : OwnF W B v zs) (hB : B ≤ W.heap.size) (hlen : zs.length + st.size ≤ 1000000000) (h0 : 0 < st.size)
    (h : ∀ v' w', OwnF w' B v' (zs ++ bys st) → Below B W w' → wpList P ops Q rest (a.put o.dst v') w') : wpList P ops Q (o :: rest) a W := by
  refine wpList_plain hgd fun K hK => ?_
  obtain ⟨v', w', hr, ho', hg⟩ := run_strF (P := P) t tx o.type ht htx hi hz hsize hby B W v st zs hown hB hlen h0
  exact wp_app ho hs hx hr (hK _ _ (h v' w' (.inl ho') hg))
theorem step_strF {P : Program} {i : TypeInfo} {ops : Array Oper} {o : Oper} {a : Act} {K : Act → World → Prop} {Q : Exit → Act → World → Prop} {E : Prop} (hgd : o.guard = none) (s x : Operand) (t tx : TypeId) (ho : o.op = .call { callee := .builtin .append, args := #[s, x], argTypes := #[t, tx] }) (ht : P.underlying t = some (.slice 5)) (htx : P.underlying tx = some .string) (hi : P.info? 5 = some i) (hz : i.zero = some (.int .u8 0))
    (hsize : i.size = 1) (hby : i.bytes = 1) (B : Nat) (W : World) (v : Value) (st : ByteArray) (zs : List Int) (hs : a.eval s = v) (hx : a.eval x = .string st) (hown : OwnF W B v zs) (hB : B ≤ W.heap.size) (hlen : zs.length + st.size ≤ 1000000000) (h0 : 0 < st.size)
    (h : ∀ v' w', OwnF w' B v' (zs ++ bys st) → Below B W w' → K (a.put o.dst v') w') : if Region.wanted o (yielded ops a.tmps) = true then Oper.wp P o a W K Q else E := by
  have hw : Region.wanted o (yielded ops a.tmps) = true := by simp [Region.wanted, hgd]
  rw [if_pos hw]
  obtain ⟨v', w', hr, ho', hg⟩ := run_strF (P := P) t tx o.type ht htx hi hz hsize hby B W v st zs hown hB hlen h0
  exact wp_app ho hs hx hr (h v' w' (.inl ho') hg)
end Go.Proofs.YtiflfcpoajijaaaGreatDoor.Fu

/- The specification's keys; OneTimeKey, of both. -/
namespace Go.Proofs.YtiflfcpoajijaaaGreatDoor.Kx
open Go.RowKit Go.Proofs.YtiflfcpoajijaaaGreatDoor.Sl Go.Proofs.YtiflfcpoajijaaaGreatDoor.By Go.Proofs.YtiflfcpoajijaaaGreatDoor.Ap Go.Proofs.YtiflfcpoajijaaaGreatDoor.Tx Go.Proofs.YtiflfcpoajijaaaGreatDoor.Sh Go.Proofs.YtiflfcpoajijaaaGreatDoor.Ho Go.Proofs.YtiflfcpoajijaaaGreatDoor.Se Go.Proofs.YtiflfcpoajijaaaGreatDoor.Ka Go.Proofs.YtiflfcpoajijaaaGreatDoor.Sx Go.Proofs.YtiflfcpoajijaaaGreatDoor.Hf Go.Proofs.YtiflfcpoajijaaaGreatDoor.Sa Go.Proofs.YtiflfcpoajijaaaGreatDoor.Fu

theorem cat_range (ts : List ByteArray) : ∀ z ∈ cat ts, 0 ≤ z ∧ z ≤ 255 := by
  intro z hz
  unfold cat at hz
  obtain ⟨t, _, h⟩ := List.mem_flatMap.1 hz
  exact bys_range t z h
def allTo (ts : List ByteArray) : List Int := bys bKey ++ cat ts
theorem allTo_range (ts : List ByteArray) : ∀ z ∈ allTo ts, 0 ≤ z ∧ z ≤ 255 := by
  intro z hz
  rcases List.mem_append.1 hz with h | h
  · exact bys_range _ z h
  · exact cat_range ts z h
theorem allTo_snoc (ts : List ByteArray) (t : ByteArray) : allTo (ts ++ [t]) = allTo ts ++ bys t := by
  unfold allTo
  rw [cat_append, ← List.append_assoc]
  congr 1
  unfold cat
  simp only [List.flatMap_cons, List.flatMap_nil, List.append_nil]
theorem allTo_len (ts : List ByteArray) (h : ∀ t ∈ ts, t.size = 32) : (allTo ts).length = 3 + 32 * ts.length := by
  unfold allTo
  rw [List.length_append, bys_length, cat_len ts h]
  rfl
theorem hin_all (seed : ByteArray) (i k : Nat) (hs : seed.size ≤ 60000) : ∀ m, ∀ t ∈ hin seed i k m, t.size = 32
  | 0, t, h => by cases h
  | m + 1, t, h => by
    unfold hin at h
    rcases List.mem_append.1 h with h | h
    · exact hin_all seed i k hs m t h
    · rw [List.mem_singleton.1 h]
      exact hh_size _ _ _ _ hs
theorem both_len (seed : ByteArray) (i k m : Nat) (hs : seed.size ≤ 60000) : (allTo (hidTo seed i k ++ hin seed i k m)).length = 3 + 32 * (2 * k + m) := by
  rw [allTo_len, List.length_append, hidTo_length, hin_length]
  intro t ht
  rcases List.mem_append.1 ht with h | h
  · exact hidTo_all seed i hs k t h
  · exact hin_all seed i k hs m t h

set_option maxRecDepth 100000 in
set_option maxHeartbeats 800000 in
theorem l03Key_any (seed : ByteArray) (i : Nat) (w : World) (hs : seed.size ≤ 60000) (hi : i < 256) :
    Calls Tryz.prog 70 #[.string seed, .int .i64 i] w fun e w' => e = .returned (.string (keyS seed i)) ∧ Below w.heap.size w w' := by
  obtain ⟨i0, hi0, hz0, hz1, hz2⟩ := info_parts info5
  have HS : Hid (∀ _ : Unit, seed.size ≤ 60000 ∧ i < 256) := fun _ => ⟨hs, hi⟩
  have H0 : Hid (OwnF (w.alloc (.cells #[.int .u8 107, .int .u8 101, .int .u8 121] 5 (3, 4))) w.heap.size (.slice (some ⟨w.heap.size, 0, none⟩) 3 3) (allTo (hidTo seed i 0))) := full_lit w [107, 101, 121] 3 rfl _ rfl _
  have hk0 := Lib.run_convert_bytes_const (P := Tryz.prog) w 22 5 #[.int .u8 107, .int .u8 101, .int .u8 121] 3 3 Tryz.underlying22 Tryz.underlying5
  clear hs hi
  go_enter Tryz.func70, Tryz.ntmps70
  go_wp2_with fail
  clear hk0
  go_loopw [5, 6] (fun u j wr => ∃ k : Nat, k ≤ 32 ∧ j = .int .i64 k ∧ OwnF wr w.heap.size u (allTo (hidTo seed i k)) ∧ Below w.heap.size w wr) (fun _ j _ => 32 - (intOf j).toNat)
  case atStart => exact ⟨0, by omega, rfl, H0.out, bel_new _ _⟩
  case round =>
    clear H0
    obtain ⟨k, hk, rfl, ho, hb⟩ := hrel
    by_cases hlt : k < 32
    · have hlt' : decide ((k : Int) < 32) = true := by rw [decide_eq_true_eq]; omega
      have HE : Hid (hidTo seed i (k + 1) = hidTo seed i k ++ hin seed i k 2) := rfl
      have ho' : OwnF wr w.heap.size u5 (allTo (hidTo seed i k ++ hin seed i k 0)) := by unfold hin; rw [List.append_nil]; exact ho
      have HO : Hid (OwnF wr w.heap.size u5 (allTo (hidTo seed i k ++ hin seed i k 0))) := ho'
      clear ho ho'
      go_wp2_with fail
      go_loopw [5, 7] (fun u j wr => ∃ m : Nat, m ≤ 2 ∧ j = .int .i64 m ∧ OwnF wr w.heap.size u (allTo (hidTo seed i k ++ hin seed i k m)) ∧ Below w.heap.size w wr) (fun _ j _ => 2 - (intOf j).toNat)
      case atStart => exact ⟨0, by omega, rfl, HO.out, hb⟩
      case round =>
        clear HO hb
        obtain ⟨m, hm, rfl, ho, hb⟩ := hrel
        by_cases hm2 : m < 2
        · have HI : Hid (allTo (hidTo seed i k ++ hin seed i k (m + 1)) = allTo (hidTo seed i k ++ hin seed i k m) ++ bys (hashS (bys (sec seed i k m)))) := by show _ = _; rw [← allTo_snoc, List.append_assoc]; rfl
          have HL : Hid ((allTo (hidTo seed i k ++ hin seed i k m)).length ≤ 100000) := by show _ ≤ _; rw [both_len seed i k m (HS.out ()).1]; omega
          go_wp2_with fail
          refine (l03Secret_any seed i k m _ (HS.out ()).1 (HS.out ()).2 (by omega) (by omega)).mono ?_
          rintro e w3 ⟨rfl, b3⟩
          have HC2 : Hid ((bys (sec seed i k m)).length ≤ 65536) := by show _ ≤ _; rw [bys_length, sec_size seed i k m (HS.out ()).1]; decide
          generalize sec seed i k m = z at HI HC2
          obtain ⟨v4, w4, hcv, r4, b4⟩ := bytes_run z w3
          have hb4 := hb.trans ((b3.trans (b4.mono b3.size)).mono hb.size)
          have ho4 := OwnF.below ho (b3.trans (b4.mono b3.size))
          have R4 : Hid (RowB w4 v4 (bys z)) := r4
          clear b3 b4 ho hb r4
          go_wp2_with fail
          refine (hash1_any v4 _ w4 R4.out HC2.out).mono ?_
          rintro e w5 ⟨rfl, b5⟩
          have hb5 := hb4.trans (b5.mono hb4.size)
          have ho5 := OwnF.below ho4 b5
          have HZ : Hid ((hashS (bys z)).size ≤ 100000 ∧ 0 < (hashS (bys z)).size) := by show _ ∧ _; rw [hash_size _ HC2.out]; decide
          clear b5 hb4 ho4 R4 HC2 hcv
          generalize hashS (bys z) = y at HI HZ
          go_wp2_with (at_builtin; go_must (refine list_strF (by rfl) _ _ 22 9 (by rfl) Tryz.underlying22 Tryz.underlying9 hi0 hz0 hz1 hz2 w.heap.size w5 _ y _ (by rfl) (by rfl) ho5 hb5.size (by have := HL.out; have := HZ.out.1; omega) HZ.out.2 ?_; intro v6 w6 o6 k6))
          rw [← HI.out] at o6
          have b6 := hb5.trans k6
          go_roundw
          case rel => exact ⟨m + 1, by omega, by go_num, o6, b6⟩
          case measure => simp [intOf]; omega
        · obtain rfl : m = 2 := by omega
          rw [← HE.out] at ho
          go_wp2_with fail
          exact ⟨⟨k + 1, by omega, by go_num, ho, hb⟩, by simp [intOf]; omega⟩
    · obtain rfl : k = 32 := by omega
      have HN : Hid ((allTo (hidTo seed i 32)).length ≤ 65536) := by show _ ≤ _; rw [allTo_len _ (hidTo_all seed i (HS.out ()).1 32), hidTo_length]; decide
      have HR : Hid (keyS seed i = hashS (allTo (hidTo seed i 32))) := rfl
      have HG : Hid (∀ z ∈ allTo (hidTo seed i 32), 0 ≤ z ∧ z ≤ 255) := allTo_range _
      generalize allTo (hidTo seed i 32) = ts at ho HN HR HG
      go_wp2_with fail
      refine (hash1_any _ ts _ (OwnF.rowB ho HG.out) HN.out).mono ?_
      rintro e w3 ⟨rfl, b3⟩
      go_wp2_with fail
      go_ret
      exact ⟨Tx.ret_str HR.out.symm, hb.trans (b3.mono hb.size)⟩

/-- What OneTimeKey answers. -/
def kOut (s : ByteArray) (i : Int) : ByteArray := if kf s i = 0 then keyS s i.toNat else ⟨#[]⟩
end Go.Proofs.YtiflfcpoajijaaaGreatDoor.Kx

/- A row of the tree above another: impl.rowAbove, the specification's l03Level and l03Keys. -/
namespace Go.Proofs.YtiflfcpoajijaaaGreatDoor.Lv
open Go.RowKit Go.Proofs.YtiflfcpoajijaaaGreatDoor.Sl Go.Proofs.YtiflfcpoajijaaaGreatDoor.By Go.Proofs.YtiflfcpoajijaaaGreatDoor.Ap Go.Proofs.YtiflfcpoajijaaaGreatDoor.Tx Go.Proofs.YtiflfcpoajijaaaGreatDoor.Sh Go.Proofs.YtiflfcpoajijaaaGreatDoor.Ho Go.Proofs.YtiflfcpoajijaaaGreatDoor.Se Go.Proofs.YtiflfcpoajijaaaGreatDoor.Ka Go.Proofs.YtiflfcpoajijaaaGreatDoor.Sx Go.Proofs.YtiflfcpoajijaaaGreatDoor.Hf Go.Proofs.YtiflfcpoajijaaaGreatDoor.Sa Go.Proofs.YtiflfcpoajijaaaGreatDoor.Kx

def lvlTo (ts : List ByteArray) : Nat → List ByteArray
  | 0 => []
  | k + 1 => lvlTo ts k ++ [node (tnth ts (2 * k)) (tnth ts (2 * k + 1))]
theorem lvlTo_length (ts : List ByteArray) : ∀ k, (lvlTo ts k).length = k
  | 0 => rfl
  | k + 1 => by unfold lvlTo; rw [List.length_append, lvlTo_length ts k]; rfl
theorem lvlTo_all (ts : List ByteArray) (h : ∀ t ∈ ts, t.size = 32) : ∀ k, 2 * k ≤ ts.length → ∀ t ∈ lvlTo ts k, t.size = 32
  | 0, _, t, ht => by cases ht
  | k + 1, hk, t, ht => by
    unfold lvlTo at ht
    rcases List.mem_append.1 ht with ht | ht
    · exact lvlTo_all ts h k (by omega) t ht
    · rw [List.mem_singleton.1 ht]
      have h1 := h _ (tnth_mem (show 2 * k < ts.length by omega))
      have h2 := h _ (tnth_mem (show 2 * k + 1 < ts.length by omega))
      exact node_size _ _ (by omega) (by omega)

set_option maxRecDepth 100000 in
set_option maxHeartbeats 1600000 in
theorem rowAbove_any (v : Value) (ts : List ByteArray) (n : Nat) (w : World) (h : RowT w v ts) (hn : ts.length = 2 * n) (hn2 : n ≤ 1000) (ha : ∀ t ∈ ts, t.size = 32) (hK : KTab w) (hp : 0 < w.heap.size) :
    Calls Tryz.prog 101 #[v] w fun e w' => ∃ u, e = .returned u ∧ OwnS w' w.heap.size u (lvlTo ts n) ∧ Below w.heap.size w w' := by
  obtain ⟨i0, hi0, hz0, hz1, hz2⟩ := info_parts info9
  obtain ⟨a, cap, rfl, h⟩ := h
  have GK : Hid (KTab w) := hK
  have HA : Hid (∀ t ∈ ts, t.size = 32) := ha
  have HN : Hid (ts.length = 2 * n) := hn
  have hl1 : (ts.length : Int) ≤ 2 * (n : Int) := by omega
  have hl2 : 2 * (n : Int) ≤ (ts.length : Int) := by omega
  clear hK ha hn
  go_enter Tryz.func101, Tryz.ntmps101
  go_wp2_with fail
  go_loopw [3, 4] (fun u j wr => ∃ k : Nat, k ≤ n ∧ j = .int .i64 (2 * (k : Int)) ∧ OwnS wr w.heap.size u (lvlTo ts k) ∧ Below w.heap.size w wr ∧ w.heap.size ≤ wr.heap.size) (fun _ j _ => 2 * n - (intOf j).toNat)
  case atStart => exact ⟨0, by omega, rfl, OwnS.nil _ _, Below.refl _ _, Nat.le_refl _⟩
  case round =>
    obtain ⟨k, hk, rfl, ho, hb, hB⟩ := hrel
    by_cases hlt : k < n
    · rcases h with h | ⟨b, off, rfl, hc, hbw, hcell⟩
      · exact absurd (show ts.length = 0 by rw [h]; rfl) (by have := HN.out; omega)
      have q0 : (0 : Int) ≤ 2 * (k : Int) := by omega
      have q1 : 2 * (k : Int) < (ts.length : Int) := by omega
      have q2 : (0 : Int) ≤ 2 * (k : Int) + 1 := by omega
      have q3 : 2 * (k : Int) + 1 < (ts.length : Int) := by omega
      have qw : IntKind.i64.wrap (2 * (k : Int) + 1) = 2 * (k : Int) + 1 := by rw [IntKind.wrap_i64]; omega
      have HX : Hid (∀ W, Below w.heap.size w W → W.cell? ⟨b, off + 2 * k, none⟩ = some (.string (tnth ts (2 * k))) ∧ W.cell? ⟨b, off + (2 * k + 1), none⟩ = some (.string (tnth ts (2 * k + 1)))) := fun W hW =>
        ⟨(hW.cell (p := ⟨b, off + 2 * k, none⟩) hbw).trans (hcell (2 * k) (by have := HN.out; omega)), (hW.cell (p := ⟨b, off + (2 * k + 1), none⟩) hbw).trans (hcell (2 * k + 1) (by have := HN.out; omega))⟩
      obtain ⟨d1, d2⟩ := HX.out wr hb
      have c1 : wr.cell? ⟨b, off + (2 * (k : Int)).toNat, none⟩ = some (.string (tnth ts (2 * k))) := by rw [show (2 * (k : Int)).toNat = 2 * k by omega]; exact d1
      have c2 : wr.cell? ⟨b, off + (2 * (k : Int) + 1).toNat, none⟩ = some (.string (tnth ts (2 * k + 1))) := by rw [show (2 * (k : Int) + 1).toNat = 2 * k + 1 by omega]; exact d2
      clear d1 d2 HX
      have HE : Hid (lvlTo ts (k + 1) = lvlTo ts k ++ [node (tnth ts (2 * k)) (tnth ts (2 * k + 1))]) := rfl
      have HL : Hid ((lvlTo ts k).length ≤ 1000000) := by show _ ≤ _; rw [lvlTo_length]; omega
      have HZ : Hid ((tnth ts (2 * k)).size ≤ 100000 ∧ (tnth ts (2 * k + 1)).size ≤ 100000) := by
        have h1 := HA.out _ (tnth_mem (show 2 * k < ts.length by have := HN.out; omega))
        have h2 := HA.out _ (tnth_mem (show 2 * k + 1 < ts.length by have := HN.out; omega))
        exact ⟨by omega, by omega⟩
      clear hcell
      generalize tnth ts (2 * k) = l at c1 HE HZ
      generalize tnth ts (2 * k + 1) = r at c2 HE HZ
      have KD : Hid (KTab wr.drew ∧ 0 < wr.drew.heap.size) := ⟨GK.out.below hb.drew hp, Nat.lt_of_lt_of_le hp hB⟩
      go_wp2_with fail
      go_region_law (first
        | (go_simp; go_at_call 113; refine (nodeOf_any l r _ HZ.out.1 HZ.out.2 KD.out.1 KD.out.2).mono ?_; rintro e w3 ⟨rfl, b3⟩; with_reducible (have hA := ordS ho hb hB b3); obtain ⟨o3, g3, B3⟩ := hA; clear b3; try go_simp)
        | (refine step_txt (by rfl) _ _ 35 (by rfl) Tryz.underlying35 hi0 hz0 hz1 hz2 w.heap.size _ _ _ _ [node l r] (by rfl) (by rfl) (OwnS.below o3 (bel_new _ _)) (by rw [size_new]; omega) (row_lit w3 9 [node l r] _ 1 rfl rfl) (by have := HL.out; show _ + 1 ≤ _; omega) ?_; intro v5 w5 o5 b5))
      all_goals
        rw [← HE.out] at o5
        have g5 := (g3.alloc B3 _).trans b5
        go_wp2_with fail
        exact ⟨⟨k + 1, by omega, val_eq (by omega), o5, g5, Nat.le_trans (by rw [size_new]; omega) b5.size⟩, by simp [intOf]; omega⟩
    · obtain rfl : k = n := by omega
      go_wp2_with fail
      go_ret
      exact ⟨_, rfl, ho, hb⟩

set_option maxRecDepth 100000 in
set_option maxHeartbeats 1600000 in
theorem l03Level_any (v : Value) (ts : List ByteArray) (n : Nat) (w : World) (h : RowT w v ts) (hn : ts.length = 2 * n) (hn2 : n ≤ 1000) (ha : ∀ t ∈ ts, t.size = 32) :
    Calls Tryz.prog 69 #[v] w fun e w' => ∃ u, e = .returned u ∧ OwnS w' w.heap.size u (lvlTo ts n) ∧ Below w.heap.size w w' := by
  obtain ⟨i0, hi0, hz0, hz1, hz2⟩ := info_parts info9
  obtain ⟨a, cap, rfl, h⟩ := h
  have HA : Hid (∀ t ∈ ts, t.size = 32) := ha
  have HN : Hid (ts.length = 2 * n) := hn
  have hl1 : (ts.length : Int) ≤ 2 * (n : Int) := by omega
  have hl2 : 2 * (n : Int) ≤ (ts.length : Int) := by omega
  clear ha hn
  go_enter Tryz.func69, Tryz.ntmps69
  go_wp2_with fail
  go_loopw [3, 4] (fun u j wr => ∃ k : Nat, k ≤ n ∧ j = .int .i64 (2 * (k : Int)) ∧ OwnS wr w.heap.size u (lvlTo ts k) ∧ Below w.heap.size w wr ∧ w.heap.size ≤ wr.heap.size) (fun _ j _ => 2 * n - (intOf j).toNat)
  case atStart => exact ⟨0, by omega, rfl, OwnS.made _ _ (Nat.le_refl _), bel_new _ _, by rw [size_new]; omega⟩
  case round =>
    obtain ⟨k, hk, rfl, ho, hb, hB⟩ := hrel
    by_cases hlt : k < n
    · rcases h with h | ⟨b, off, rfl, hc, hbw, hcell⟩
      · exact absurd (show ts.length = 0 by rw [h]; rfl) (by have := HN.out; omega)
      have q0 : (0 : Int) ≤ 2 * (k : Int) := by omega
      have q1 : 2 * (k : Int) < (ts.length : Int) := by omega
      have q2 : (0 : Int) ≤ 2 * (k : Int) + 1 := by omega
      have q3 : 2 * (k : Int) + 1 < (ts.length : Int) := by omega
      have qw : IntKind.i64.wrap (2 * (k : Int) + 1) = 2 * (k : Int) + 1 := by rw [IntKind.wrap_i64]; omega
      have HX : Hid (∀ W, Below w.heap.size w W → W.cell? ⟨b, off + 2 * k, none⟩ = some (.string (tnth ts (2 * k))) ∧ W.cell? ⟨b, off + (2 * k + 1), none⟩ = some (.string (tnth ts (2 * k + 1)))) := fun W hW =>
        ⟨(hW.cell (p := ⟨b, off + 2 * k, none⟩) hbw).trans (hcell (2 * k) (by have := HN.out; omega)), (hW.cell (p := ⟨b, off + (2 * k + 1), none⟩) hbw).trans (hcell (2 * k + 1) (by have := HN.out; omega))⟩
      obtain ⟨d1, d2⟩ := HX.out wr hb
      have c1 : wr.cell? ⟨b, off + (2 * (k : Int)).toNat, none⟩ = some (.string (tnth ts (2 * k))) := by rw [show (2 * (k : Int)).toNat = 2 * k by omega]; exact d1
      have c2 : wr.cell? ⟨b, off + (2 * (k : Int) + 1).toNat, none⟩ = some (.string (tnth ts (2 * k + 1))) := by rw [show (2 * (k : Int) + 1).toNat = 2 * k + 1 by omega]; exact d2
      clear d1 d2 HX
      have HE : Hid (lvlTo ts (k + 1) = lvlTo ts k ++ [node (tnth ts (2 * k)) (tnth ts (2 * k + 1))]) := rfl
      have HL : Hid ((lvlTo ts k).length ≤ 300000) := by show _ ≤ _; rw [lvlTo_length]; omega
      have HZ : Hid ((tnth ts (2 * k)).size ≤ 30000 ∧ (tnth ts (2 * k + 1)).size ≤ 30000) := by
        have h1 := HA.out _ (tnth_mem (show 2 * k < ts.length by have := HN.out; omega))
        have h2 := HA.out _ (tnth_mem (show 2 * k + 1 < ts.length by have := HN.out; omega))
        exact ⟨by omega, by omega⟩
      clear hcell
      generalize tnth ts (2 * k) = l at c1 HE HZ
      generalize tnth ts (2 * k + 1) = r at c2 HE HZ
      go_wp2_with fail
      go_region_law (first
        | (go_simp; go_at_call 75; refine (l03Node_any l r _ HZ.out.1 HZ.out.2).mono ?_; rintro e w3 ⟨rfl, b3⟩; with_reducible (have hA := ordS ho hb hB b3); obtain ⟨o3, g3, B3⟩ := hA; clear b3; try go_simp)
        | (refine step_txt (by rfl) _ _ 35 (by rfl) Tryz.underlying35 hi0 hz0 hz1 hz2 w.heap.size _ _ _ _ [node l r] (by rfl) (by rfl) (OwnS.below o3 (bel_new _ _)) (by rw [size_new]; omega) (row_lit w3 9 [node l r] _ 1 rfl rfl) (by have := HL.out; show _ + 1 ≤ _; omega) ?_; intro v5 w5 o5 b5))
      all_goals
        rw [← HE.out] at o5
        have g5 := (g3.alloc B3 _).trans b5
        go_wp2_with fail
        exact ⟨⟨k + 1, by omega, val_eq (by omega), o5, g5, Nat.le_trans (by rw [size_new]; omega) b5.size⟩, by simp [intOf]; omega⟩
    · obtain rfl : k = n := by omega
      go_wp2_with fail
      go_ret
      exact ⟨_, rfl, ho, hb⟩

set_option maxRecDepth 100000 in
set_option maxHeartbeats 800000 in
theorem l03Keys_any (seed : ByteArray) (w : World) (hs : seed.size ≤ 60000) :
    Calls Tryz.prog 36 #[.string seed] w fun e w' => ∃ v, e = .returned v ∧ OwnS w' w.heap.size v (keysTo seed 8) ∧ Below w.heap.size w w' := by
  obtain ⟨i0, hi0, hz0, hz1, hz2⟩ := info_parts info9
  have HS : Hid (seed.size ≤ 60000) := hs
  clear hs
  go_enter Tryz.func36, Tryz.ntmps36
  go_wp2_with fail
  go_loopw [3, 4] (fun u j wr => ∃ k : Nat, k ≤ 8 ∧ j = .int .i64 k ∧ OwnS wr w.heap.size u (keysTo seed k) ∧ Below w.heap.size w wr) (fun _ j _ => 8 - (intOf j).toNat)
  case atStart => exact ⟨0, by omega, rfl, OwnS.made _ _ (Nat.le_refl _), bel_new _ _⟩
  case round =>
    obtain ⟨k, hk, rfl, ho, hb⟩ := hrel
    by_cases hlt : k < 8
    · have HE : Hid (keysTo seed (k + 1) = keysTo seed k ++ [keyS seed k]) := rfl
      have HN : Hid ((keysTo seed k).length ≤ 1000000) := by show _ ≤ _; rw [keysTo_length]; omega
      go_wp2_with fail
      refine (l03Key_any seed k _ HS.out (by omega)).mono ?_
      rintro e w4 ⟨rfl, b4⟩
      have hb4 := hb.trans (b4.mono hb.size)
      have ho4 := OwnS.below ho b4
      clear b4 ho hb
      generalize keyS seed k = y at HE
      go_wp2_with (at_builtin; go_must (refine list_texts (by rfl) _ _ 35 (by rfl) i0 Tryz.underlying35 hi0 hz0 hz1 hz2 w.heap.size w w4 _ _ [y] _ 1 rfl rfl (by decide) (by rfl) ho4 hb4 hb4.size (by rfl) HN.out ?_; intro v5 w5 o5 b5 _ _))
      rw [← HE.out] at o5
      exact ⟨⟨k + 1, by omega, by go_num, o5, b5⟩, by simp [intOf]; omega⟩
    · obtain rfl : k = 8 := by omega
      go_wp2_with fail
      go_ret
      exact ⟨_, rfl, ho, hb⟩
end Go.Proofs.YtiflfcpoajijaaaGreatDoor.Lv

/- The root over all keys: ChainRoot, of both. -/
namespace Go.Proofs.YtiflfcpoajijaaaGreatDoor.Cr
open Go.RowKit Go.Proofs.YtiflfcpoajijaaaGreatDoor.Sl Go.Proofs.YtiflfcpoajijaaaGreatDoor.By Go.Proofs.YtiflfcpoajijaaaGreatDoor.Ap Go.Proofs.YtiflfcpoajijaaaGreatDoor.Tx Go.Proofs.YtiflfcpoajijaaaGreatDoor.Sh Go.Proofs.YtiflfcpoajijaaaGreatDoor.Ho Go.Proofs.YtiflfcpoajijaaaGreatDoor.Se Go.Proofs.YtiflfcpoajijaaaGreatDoor.Ka Go.Proofs.YtiflfcpoajijaaaGreatDoor.Sx Go.Proofs.YtiflfcpoajijaaaGreatDoor.Hf Go.Proofs.YtiflfcpoajijaaaGreatDoor.Sa Go.Proofs.YtiflfcpoajijaaaGreatDoor.Kx Go.Proofs.YtiflfcpoajijaaaGreatDoor.Lv

/-- The root of a row of 2 to the n texts. -/
def rootN : Nat → List ByteArray → ByteArray
  | 0, ts => tnth ts 0
  | n + 1, ts => rootN n (lvlTo ts (2 ^ n))
theorem pow_small {q : Nat} (h : q ≤ 3) : 2 ^ q ≤ 8 := by
  match q, h with
  | 0, _ => decide
  | 1, _ => decide
  | 2, _ => decide
  | 3, _ => decide
/-- A row of 2 to the q hashes. -/
def Row32 (q : Nat) (ts : List ByteArray) : Prop := ts.length = 2 ^ q ∧ ∀ t ∈ ts, t.size = 32
theorem Row32.up {q : Nat} {ts : List ByteArray} (h : Row32 (q + 1) ts) : Row32 q (lvlTo ts (2 ^ q)) :=
  ⟨lvlTo_length _ _, lvlTo_all ts h.2 _ (by rw [h.1, Nat.pow_succ]; omega)⟩
theorem rootN_size : ∀ (q : Nat) (ts : List ByteArray), Row32 q ts → (rootN q ts).size = 32
  | 0, ts, h => h.2 _ (tnth_mem (by rw [h.1]; decide))
  | q + 1, ts, h => by unfold rootN; exact rootN_size q _ h.up

set_option maxRecDepth 100000 in
theorem pick0_any (u : ByteArray) (v : Value) (ts : List ByteArray) (w : World) (h : RowT w v ts) (h0 : 0 < ts.length) :
    Calls Tryz.prog 68 #[.string u, v] w fun e w' => e = .returned (.string (tnth ts 0)) ∧ w = w' := by
  obtain ⟨a, cap, rfl, h⟩ := h
  rcases h with h | ⟨b, off, rfl, hc, hb, hcell⟩
  · rw [h] at h0; exact absurd h0 (by decide)
  have c0 := hcell 0 h0
  rw [Nat.add_zero] at c0
  have h0' : (0 : Int) < (ts.length : Int) := by omega
  clear hcell
  go_enter Tryz.func68, Tryz.ntmps68
  go_wp2
  go_ret
  exact ⟨rfl, rfl⟩

set_option maxRecDepth 100000 in
set_option maxHeartbeats 400000 in
theorem foldStr_any : ∀ (q : Nat) (ts : List ByteArray) (v : Value) (u : ByteArray) (w : World), q ≤ 3 → Row32 q ts → RowT w v ts → KTab w → 0 < w.heap.size →
    Calls Tryz.prog 66 #[v, .string u, .func (Fn.func 68) #[] #[]] w fun e w' => e = .returned (.string (rootN q ts)) ∧ Below w.heap.size w w'
  | 0, ts, v, u, w, _, hr, h, _, _ => by
    have h1 : ts.length = 1 := hr.1
    have HR : Hid (RowT w v ts) := h
    have HE : Hid (rootN 0 ts = tnth ts 0) := rfl
    obtain ⟨a, cap, rfl, _⟩ := h
    have hl : ((ts.length : Int) == 1) = true := by simp; omega
    have H0 : Hid (0 < ts.length) := by show _ < _; omega
    clear h1 hr
    go_enter Tryz.func66, Tryz.ntmps66
    go_wp2_with fail
    refine (pick0_any u _ ts w HR.out H0.out).mono ?_
    rintro e w1 ⟨rfl, rfl⟩
    go_wp2_with fail
    go_ret
    exact ⟨Tx.ret_str HE.out.symm, Below.refl _ _⟩
  | q + 1, ts, v, u, w, hq, hr, h, hK, hp => by
    have ih := foldStr_any q (lvlTo ts (2 ^ q))
    have HR : Hid (RowT w v ts) := h
    have HE : Hid (rootN (q + 1) ts = rootN q (lvlTo ts (2 ^ q))) := rfl
    have GK : Hid (KTab w) := hK
    have HI : Hid _ := ih
    have HU : Hid (Row32 q (lvlTo ts (2 ^ q)) ∧ ts.length = 2 * 2 ^ q ∧ ∀ t ∈ ts, t.size = 32) := ⟨hr.up, by rw [hr.1, Nat.pow_succ]; omega, hr.2⟩
    have hpw := pow_small (show q ≤ 3 by omega)
    obtain ⟨a, cap, rfl, _⟩ := h
    have h2 : ts.length = 2 * 2 ^ q := HU.out.2.1
    have hpos : 0 < 2 ^ q := Nat.pow_pos (by decide)
    have hl : ((ts.length : Int) == 1) = false := by simp; omega
    have H0 : Hid (0 < ts.length ∧ 2 ^ q ≤ 1000) := ⟨by omega, by omega⟩
    clear hr hK ih h2 hpos hpw
    go_enter Tryz.func66, Tryz.ntmps66
    go_wp2_with fail
    refine (pick0_any u _ ts w HR.out H0.out.1).mono ?_
    rintro e w1 ⟨rfl, rfl⟩
    generalize tnth ts 0 = z
    go_wp2_with fail
    refine (rowAbove_any _ ts (2 ^ q) w HR.out HU.out.2.1 H0.out.2 HU.out.2.2 GK.out hp).mono ?_
    rintro e w1 ⟨v1, rfl, o1, b1⟩
    have O1 : Hid (OwnS w1 w.heap.size v1 (lvlTo ts (2 ^ q))) := o1
    have B1 : Hid (Below w.heap.size w w1) := b1
    clear o1 b1
    go_wp2_with fail
    refine (HI.out v1 z w1 (by omega) HU.out.1 O1.out.row (GK.out.below B1.out hp) (Nat.lt_of_lt_of_le hp B1.out.size)).mono ?_
    rintro e w2 ⟨rfl, b2⟩
    go_wp2_with fail
    go_ret
    exact ⟨Tx.ret_str HE.out.symm, B1.out.trans (b2.mono B1.out.size)⟩

set_option maxRecDepth 100000 in
set_option maxHeartbeats 400000 in
theorem l03Root_any (ts : List ByteArray) (v : Value) (w : World) (hr : Row32 3 ts) (h : RowT w v ts) :
    Calls Tryz.prog 35 #[v] w fun e w' => e = .returned (.string (rootN 3 ts)) ∧ Below w.heap.size w w' := by
  have HR : Hid (Row32 3 ts ∧ RowT w v ts) := ⟨hr, h⟩
  clear hr h
  go_enter Tryz.func35, Tryz.ntmps35
  go_wp2_with fail
  go_loopw [0] (fun u wr => ∃ (q : Nat) (us : List ByteArray), q ≤ 3 ∧ RowT wr u us ∧ Row32 q us ∧ rootN q us = rootN 3 ts ∧ Below w.heap.size w wr) (fun u _ => lenV u)
  case atStart => exact ⟨3, ts, by omega, HR.out.2, HR.out.1, rfl, Below.refl _ _⟩
  case round =>
    obtain ⟨q, us, hq, hrow, h32, he, hb⟩ := hrel
    have HE : Hid (rootN q us = rootN 3 ts) := he
    clear he
    have HW : Hid (RowT wr u0 us) := hrow
    obtain ⟨a, cap, rfl, hc⟩ := hrow
    cases q with
    | zero =>
      have h1 : us.length = 1 := h32.1
      rcases hc with hc | ⟨b, off, rfl, _, hbw, hcell⟩
      · rw [hc] at h1; exact absurd h1 (by decide)
      have c0 := hcell 0 (by omega)
      rw [Nat.add_zero] at c0
      have hl : (us.length : Int) ≤ 1 := by omega
      have hl2 : (0 : Int) < (us.length : Int) := by omega
      have hl3 : ¬ (1 : Int) < (us.length : Int) := by omega
      have HZ : Hid (rootN 0 us = tnth us 0) := rfl
      clear hcell h32 h1
      go_wp2_with fail
      go_ret
      exact ⟨Tx.ret_str (by rw [← HE.out, HZ.out]), hb⟩
    | succ q =>
      have h2 : us.length = 2 * 2 ^ q := by rw [h32.1, Nat.pow_succ]; omega
      have hpos : 0 < 2 ^ q := Nat.pow_pos (by decide)
      have hpw := pow_small (show q ≤ 3 by omega)
      have HU : Hid (Row32 q (lvlTo us (2 ^ q)) ∧ us.length = 2 * 2 ^ q ∧ (∀ t ∈ us, t.size = 32) ∧ 2 ^ q ≤ 1000 ∧ (lvlTo us (2 ^ q)).length < us.length) := ⟨h32.up, h2, h32.2, by omega, by rw [lvlTo_length]; omega⟩
      have hl3 : (1 : Int) < (us.length : Int) := by omega
      clear h32 h2 hpos hpw hc
      go_wp2_with fail
      refine (l03Level_any _ us (2 ^ q) wr HW.out HU.out.2.1 HU.out.2.2.2.1 HU.out.2.2.1).mono ?_
      rintro e w1 ⟨v1, rfl, o1, b1⟩
      have HV : Hid (RowT w1 v1 (lvlTo us (2 ^ q))) := o1.row
      obtain ⟨a1, cap1, rfl, _⟩ := o1.row
      have hb1 := hb.trans (b1.mono hb.size)
      clear o1 b1
      go_wp2_with fail
      exact ⟨⟨q, lvlTo us (2 ^ q), by omega, HV.out, HU.out.1, HE.out, hb1⟩, HU.out.2.2.2.2⟩
end Go.Proofs.YtiflfcpoajijaaaGreatDoor.Cr

/- ChainRoot, of the program and of the specification. -/
namespace Go.Proofs.YtiflfcpoajijaaaGreatDoor.Cr
open Go.RowKit Go.Proofs.YtiflfcpoajijaaaGreatDoor.Sl Go.Proofs.YtiflfcpoajijaaaGreatDoor.By Go.Proofs.YtiflfcpoajijaaaGreatDoor.Ap Go.Proofs.YtiflfcpoajijaaaGreatDoor.Tx Go.Proofs.YtiflfcpoajijaaaGreatDoor.Sh Go.Proofs.YtiflfcpoajijaaaGreatDoor.Ho Go.Proofs.YtiflfcpoajijaaaGreatDoor.Se Go.Proofs.YtiflfcpoajijaaaGreatDoor.Ka Go.Proofs.YtiflfcpoajijaaaGreatDoor.Sx Go.Proofs.YtiflfcpoajijaaaGreatDoor.Hf Go.Proofs.YtiflfcpoajijaaaGreatDoor.Sa Go.Proofs.YtiflfcpoajijaaaGreatDoor.Kx Go.Proofs.YtiflfcpoajijaaaGreatDoor.Lv

/-- The root of a seed. -/
def rootS (seed : ByteArray) : ByteArray := rootN 3 (keysTo seed 8)
theorem keys32 (seed : ByteArray) (hs : seed.size ≤ 60000) : Row32 3 (keysTo seed 8) := ⟨keysTo_length _ _, keysTo_all seed hs 8⟩
theorem rootS_size (seed : ByteArray) (hs : seed.size ≤ 60000) : (rootS seed).size = 32 := rootN_size 3 _ (keys32 seed hs)
def rOut (s : ByteArray) : ByteArray := if hf s = 0 then rootS s else ⟨#[]⟩
theorem hf_cases (s : ByteArray) : (65536 < s.size ∧ hf s = 2) ∨ (¬ 65536 < s.size ∧ s.size ≠ 32 ∧ hf s = 1) ∨ (s.size = 32 ∧ hf s = 0) := by
  by_cases h1 : 65536 < s.size
  · exact .inl ⟨h1, hf_long h1⟩
  · by_cases h2 : s.size = 32
    · exact .inr (.inr ⟨h2, hf_ok h2⟩)
    · exact .inr (.inl ⟨h1, h2, hf_bad h1 h2⟩)
set_option maxRecDepth 100000 in
set_option maxHeartbeats 400000 in
theorem implChainRoot_any (s : ByteArray) (w : World) (hK : KTab w) (hp : 0 < w.heap.size) :
    Calls Tryz.prog 34 #[.string s] w fun e w' => e = .returned (.tuple #[.string (rOut s), .int .i64 (hf s)]) ∧ Below w.heap.size w w' := by
  have GK : Hid (KTab w) := hK
  clear hK
  by_cases hk : hf s = 0
  · have hsz : s.size = 32 := by rcases hf_cases s with ⟨_, h⟩ | ⟨_, _, h⟩ | ⟨h, _⟩ <;> omega
    have HS : Hid (s.size ≤ 60000) := by show _ ≤ _; omega
    have HC : Hid (hf s = 0 ∧ rOut s = rootN 3 (keysTo s 8)) := ⟨hk, if_pos hk⟩
    clear hsz
    go_enter Tryz.func34, Tryz.ntmps34
    go_wp2_with (first | (go_at_call 65; refine (hashFault_any s _).mono ?_; rintro e w1 ⟨rfl, rfl⟩; rw [hk]) | fail)
    refine (keysOf_any s w HS.out GK.out hp).mono ?_
    rintro e w1 ⟨v1, rfl, o1, b1⟩
    have O1 : Hid (OwnS w1 w.heap.size v1 (keysTo s 8)) := o1
    have B1 : Hid (Below w.heap.size w w1) := b1
    clear o1 b1
    go_wp2_with fail
    refine (foldStr_any 3 (keysTo s 8) v1 _ w1 (by decide) (keys32 s HS.out) O1.out.row (GK.out.below B1.out hp) (Nat.lt_of_lt_of_le hp B1.out.size)).mono ?_
    rintro e w2 ⟨rfl, b2⟩
    go_wp2_with fail
    go_ret2
    exact ⟨ret_sc ⟨HC.out.2.symm, HC.out.1.symm⟩, B1.out.trans (b2.mono B1.out.size)⟩
  · have HC : Hid (rOut s = ⟨#[]⟩) := if_neg hk
    have hk' : (hf s != 0) = true := by simpa using hk
    clear hk
    go_enter Tryz.func34, Tryz.ntmps34
    go_wp2_with (go_at_call 65; refine (hashFault_any s _).mono ?_; rintro e w1 ⟨rfl, rfl⟩)
    go_ret2
    exact ⟨ret_sc ⟨HC.out.symm, rfl⟩, Below.refl _ _⟩
set_option maxRecDepth 100000 in
set_option maxHeartbeats 400000 in
theorem specChainRoot_any (s : ByteArray) (w : World) :
    Calls Tryz.prog 12 #[.string s] w fun e w' => e = .returned (.tuple #[.string (rOut s), .int .i64 (hf s)]) ∧ Below w.heap.size w w' := by
  rcases hf_cases s with ⟨h1, hk⟩ | ⟨h1, h2, hk⟩ | ⟨h2, hk⟩
  · have HC : Hid (hf s = 2 ∧ rOut s = ⟨#[]⟩) := ⟨hk, if_neg (by omega)⟩
    have h1' : (65536 : Int) < (s.size : Int) := by omega
    go_enter Tryz.func12, Tryz.ntmps12
    go_wp2_with fail
    go_ret2
    exact ⟨ret_sc ⟨HC.out.2.symm, HC.out.1.symm⟩, Below.refl _ _⟩
  · have HC : Hid (hf s = 1 ∧ rOut s = ⟨#[]⟩) := ⟨hk, if_neg (by omega)⟩
    have h1' : (s.size : Int) ≤ 65536 := by omega
    have h2' : ((s.size : Int) != 32) = true := by simp; omega
    clear h2
    go_enter Tryz.func12, Tryz.ntmps12
    go_wp2_with fail
    go_ret2
    exact ⟨ret_sc ⟨HC.out.2.symm, HC.out.1.symm⟩, Below.refl _ _⟩
  · have h1' : (s.size : Int) ≤ 65536 := by omega
    have h2' : ((s.size : Int) != 32) = false := by simp; omega
    have HS : Hid (s.size ≤ 60000) := by show _ ≤ _; omega
    have HC : Hid (hf s = 0 ∧ rOut s = rootN 3 (keysTo s 8)) := ⟨hk, if_pos hk⟩
    clear h2
    go_enter Tryz.func12, Tryz.ntmps12
    go_wp2_with fail
    refine (l03Keys_any s w HS.out).mono ?_
    rintro e w1 ⟨v1, rfl, o1, b1⟩
    have O1 : Hid (OwnS w1 w.heap.size v1 (keysTo s 8)) := o1
    have B1 : Hid (Below w.heap.size w w1) := b1
    clear o1 b1
    go_wp2_with fail
    refine (l03Root_any (keysTo s 8) v1 w1 (keys32 s HS.out) O1.out.row).mono ?_
    rintro e w2 ⟨rfl, b2⟩
    go_wp2_with fail
    go_ret2
    exact ⟨ret_sc ⟨HC.out.2.symm, HC.out.1.symm⟩, B1.out.trans (b2.mono B1.out.size)⟩
end Go.Proofs.YtiflfcpoajijaaaGreatDoor.Cr
