/- Texts put together: Pf, Tk, Pg, Ph. -/
import Derived.Test.YtnebohdlndiejaaGreatDoorTz
/- Right pieces: impl.piecesFault, the specification's l09OK. -/
namespace Go.Proofs.YtnebohdlndiejaaGreatDoor.Pf
open Go.RowKit Go.Proofs.YtnebohdlndiejaaGreatDoor.Sl Go.Proofs.YtnebohdlndiejaaGreatDoor.By Go.Proofs.YtnebohdlndiejaaGreatDoor.Ap Go.Proofs.YtnebohdlndiejaaGreatDoor.Tx

def inP (n a b : Int) : Bool := decide (a ≤ n) && decide (n ≤ b)
theorem inP_yes {n a b : Int} (h1 : a ≤ n) (h2 : n ≤ b) : inP n a b = true := by unfold inP; rw [decide_eq_true h1, decide_eq_true h2]; rfl
theorem inP_no {n a b : Int} (h : ¬ (a ≤ n ∧ n ≤ b)) : inP n a b = false := by
  unfold inP
  by_cases h1 : a ≤ n
  · rw [decide_eq_false (show ¬ n ≤ b from fun h2 => h ⟨h1, h2⟩), Bool.and_false]
  · rw [decide_eq_false h1, Bool.false_and]
theorem retB {a b : Bool} (h : a = b) : Ending.returned (.bool a) = .returned (.bool b) := by rw [h]
theorem retI {a b : Int} (h : a = b) : Ending.returned (.int .i64 a) = .returned (.int .i64 b) := by rw [h]
theorem within_any (n a b : Int) (w : World) : Calls Tryz.prog 66 #[.int .i64 n, .int .i64 a, .int .i64 b] w fun e w' => e = .returned (.bool (inP n a b)) ∧ w = w' := by
  by_cases h1 : a ≤ n
  · by_cases h2 : n ≤ b
    · have HE : Hid (inP n a b = true) := inP_yes h1 h2
      go_enter Tryz.func66, Tryz.ntmps66
      go_wp2
      go_ret
      exact ⟨retB HE.out.symm, rfl⟩
    · have HE : Hid (inP n a b = false) := inP_no fun h => h2 h.2
      go_enter Tryz.func66, Tryz.ntmps66
      go_wp2
      go_ret
      exact ⟨retB HE.out.symm, rfl⟩
  · have HE : Hid (inP n a b = false) := inP_no fun h => h1 h.1
    go_enter Tryz.func66, Tryz.ntmps66
    go_wp2
    go_ret
    exact ⟨retB HE.out.symm, rfl⟩
theorem l01In_any (n a b : Int) (w : World) : Calls Tryz.prog 29 #[.int .i64 n, .int .i64 a, .int .i64 b] w fun e w' => e = .returned (.bool (inP n a b)) ∧ w = w' := by
  by_cases h1 : a ≤ n
  · by_cases h2 : n ≤ b
    · have HE : Hid (inP n a b = true) := inP_yes h1 h2
      go_enter Tryz.func29, Tryz.ntmps29
      go_wp2
      go_ret
      exact ⟨retB HE.out.symm, rfl⟩
    · have HE : Hid (inP n a b = false) := inP_no fun h => h2 h.2
      go_enter Tryz.func29, Tryz.ntmps29
      go_wp2
      go_ret
      exact ⟨retB HE.out.symm, rfl⟩
  · have HE : Hid (inP n a b = false) := inP_no fun h => h1 h.1
    go_enter Tryz.func29, Tryz.ntmps29
    go_wp2
    go_ret
    exact ⟨retB HE.out.symm, rfl⟩

/-- A piece at its place: whole, or the last one and not empty. -/
def OneP (ts : List ByteArray) (i : Nat) : Prop := 1 ≤ (tnth ts i).size ∧ (tnth ts i).size ≤ 32 ∧ (i + 1 < ts.length → (tnth ts i).size = 32)
def PcP (ts : List ByteArray) : Prop := ts.length ≤ 64 ∧ ∀ i, i < ts.length → OneP ts i
noncomputable def pcB (ts : List ByteArray) : Bool := @decide (PcP ts) (Classical.propDecidable _)
theorem pcB_yes {ts : List ByteArray} (h : PcP ts) : pcB ts = true := by unfold pcB; exact @decide_eq_true _ (Classical.propDecidable _) h
theorem pcB_no {ts : List ByteArray} (h : ¬ PcP ts) : pcB ts = false := by unfold pcB; exact @decide_eq_false _ (Classical.propDecidable _) h
theorem pcB_get {ts : List ByteArray} (h : pcB ts = true) : PcP ts := by unfold pcB at h; exact @of_decide_eq_true _ (Classical.propDecidable _) h
noncomputable def pcC (ts : List ByteArray) : Int := if 4096 < ts.length then 2 else if pcB ts = true then 0 else 1
theorem pcC_ok {ts : List ByteArray} (h : PcP ts) : pcC ts = 0 := by
  unfold pcC
  rw [if_neg (by have := h.1; omega), if_pos (pcB_yes h)]
theorem pcC_get {ts : List ByteArray} (h : pcC ts = 0) : PcP ts := by
  unfold pcC at h
  split at h
  · cases h
  · split at h
    · rename_i h2; exact pcB_get h2
    · cases h
theorem pcC_bad {ts : List ByteArray} (h0 : ¬ 4096 < ts.length) (h : ¬ PcP ts) : pcC ts = 1 := by
  unfold pcC
  rw [if_neg h0, if_neg (by rw [pcB_no h]; decide)]
theorem PcP.small {ts : List ByteArray} (h : PcP ts) : ∀ t ∈ ts, t.size ≤ 32 := by
  intro t ht
  obtain ⟨i, hi, rfl⟩ := List.getElem_of_mem ht
  have := (h.2 i hi).2.1
  unfold tnth at this
  rw [List.getD_eq_getElem?_getD, List.getElem?_eq_getElem hi] at this
  exact this

set_option maxRecDepth 100000 in
set_option maxHeartbeats 800000 in
theorem piecesFault_any (v : Value) (ts : List ByteArray) (w : World) (h : RowT w v ts) (hl : ts.length ≤ maxLen) :
    Calls Tryz.prog 86 #[v] w fun e w' => e = .returned (.int .i64 (pcC ts)) ∧ w = w' := by
  obtain ⟨a, cap, rfl, h⟩ := h
  unfold maxLen at hl
  by_cases h1 : 4096 < ts.length
  · have h1' : (4096 : Int) < (ts.length : Int) := by omega
    have HE : Hid (pcC ts = 2) := by show _ = _; unfold pcC; rw [if_pos h1]
    clear h
    go_enter Tryz.func86, Tryz.ntmps86
    go_wp2
    go_ret
    exact ⟨retI HE.out.symm, rfl⟩
  have h1' : ¬ (4096 : Int) < (ts.length : Int) := by omega
  by_cases h2 : 64 < ts.length
  · have h2' : (64 : Int) < (ts.length : Int) := by omega
    have HE : Hid (pcC ts = 1) := pcC_bad h1 fun h => by have := h.1; omega
    clear h
    go_enter Tryz.func86, Tryz.ntmps86
    go_wp2
    go_ret
    exact ⟨retI HE.out.symm, rfl⟩
  have h2' : ¬ (64 : Int) < (ts.length : Int) := by omega
  have HB : Hid (¬ PcP ts → pcC ts = 1) := pcC_bad h1
  have HG : Hid ((∀ i, i < ts.length → OneP ts i) → pcC ts = 0) := fun hh => pcC_ok ⟨by omega, hh⟩
  clear h1 h2
  go_enter Tryz.func86, Tryz.ntmps86
  go_wp2_with fail
  go_loop [14] (fun i => ∃ k : Nat, k ≤ ts.length ∧ i = .int .i64 k ∧ Hid (∀ j, j < k → OneP ts j)) (fun i => ts.length - (intOf i).toNat)
  case atStart => exact ⟨0, by omega, rfl, fun j hj => absurd hj (by omega)⟩
  case round =>
    obtain ⟨k, hk, rfl, HI⟩ := hrel
    by_cases hlt : k < ts.length
    · rcases h with h | ⟨b, off, rfl, hc, hb, hcell⟩
      · exact absurd hlt (by rw [h]; simp)
      have c1 := hcell k hlt
      have hp1 : (k : Int) < (ts.length : Int) := by omega
      clear hcell
      by_cases hgood : OneP ts k
      · have HJ : Hid (∀ j, j < k + 1 → OneP ts j) := fun j hj => by
          by_cases e : j = k
          · subst e; exact hgood
          · exact HI.out j (by omega)
        obtain ⟨g1, g2, g3⟩ := hgood
        by_cases hlast : k + 1 = ts.length
        · have hq : ((k : Int) == (ts.length : Int) - 1) = true := by simp; omega
          have gi : inP ((tnth ts k).size : Int) 1 32 = true := inP_yes (by omega) (by omega)
          clear hlast g1 g2 g3
          generalize tnth ts k = t at c1 gi
          go_wp2_with (go_at_call 66; refine (within_any _ _ _ _).mono ?_; rintro e w1 ⟨rfl, rfl⟩; rw [gi])
          go_round
          case rel => exact ⟨k + 1, by omega, by go_num, HJ⟩
          case measure => simp [intOf]; omega
        · have hq : ((k : Int) == (ts.length : Int) - 1) = false := by simp; omega
          have gi : inP ((tnth ts k).size : Int) 32 32 = true := inP_yes (by have := g3 (by omega); omega) (by omega)
          clear hlast g1 g2 g3
          generalize tnth ts k = t at c1 gi
          go_wp2_with (go_at_call 66; refine (within_any _ _ _ _).mono ?_; rintro e w1 ⟨rfl, rfl⟩; rw [gi])
          go_round
          case rel => exact ⟨k + 1, by omega, by go_num, HJ⟩
          case measure => simp [intOf]; omega
      · have HE : Hid (pcC ts = 1) := HB.out fun hh => hgood (hh.2 k hlt)
        by_cases hlast : k + 1 = ts.length
        · have hq : ((k : Int) == (ts.length : Int) - 1) = true := by simp; omega
          have gi : inP ((tnth ts k).size : Int) 1 32 = false := inP_no fun ⟨a1, a2⟩ => hgood ⟨by omega, by omega, fun hh => by omega⟩
          clear hlast hgood
          generalize tnth ts k = t at c1 gi
          go_wp2_with (go_at_call 66; refine (within_any _ _ _ _).mono ?_; rintro e w1 ⟨rfl, rfl⟩; rw [gi])
          go_ret
          exact ⟨retI HE.out.symm, rfl⟩
        · have hq : ((k : Int) == (ts.length : Int) - 1) = false := by simp; omega
          have gi : inP ((tnth ts k).size : Int) 32 32 = false := inP_no fun ⟨a1, a2⟩ => hgood ⟨by omega, by omega, fun _ => by omega⟩
          clear hlast hgood
          generalize tnth ts k = t at c1 gi
          go_wp2_with (go_at_call 66; refine (within_any _ _ _ _).mono ?_; rintro e w1 ⟨rfl, rfl⟩; rw [gi])
          go_ret
          exact ⟨retI HE.out.symm, rfl⟩
    · obtain rfl : k = ts.length := by omega
      have HE : Hid (pcC ts = 0) := HG.out HI.out
      go_wp2_with fail
      go_ret
      exact ⟨retI HE.out.symm, rfl⟩

set_option maxRecDepth 100000 in
set_option maxHeartbeats 800000 in
theorem l09OK_any (v : Value) (ts : List ByteArray) (w : World) (h : RowT w v ts) (hl : ts.length ≤ maxLen) :
    Calls Tryz.prog 46 #[v] w fun e w' => e = .returned (.bool (pcB ts)) ∧ w = w' := by
  obtain ⟨a, cap, rfl, h⟩ := h
  unfold maxLen at hl
  by_cases h2 : 64 < ts.length
  · have h2' : (64 : Int) < (ts.length : Int) := by omega
    have HE : Hid (pcB ts = false) := pcB_no fun h => by have := h.1; omega
    clear h
    go_enter Tryz.func46, Tryz.ntmps46
    go_wp2
    go_ret
    exact ⟨retB HE.out.symm, rfl⟩
  have h2' : ¬ (64 : Int) < (ts.length : Int) := by omega
  have HG : Hid ((∀ i, i < ts.length → OneP ts i) → pcB ts = true) := fun hh => pcB_yes ⟨by omega, hh⟩
  clear h2
  go_enter Tryz.func46, Tryz.ntmps46
  go_wp2_with fail
  go_loop [3] (fun i => ∃ k : Nat, k ≤ ts.length ∧ i = .int .i64 k ∧ Hid (∀ j, j < k → OneP ts j)) (fun i => ts.length - (intOf i).toNat)
  case atStart => exact ⟨0, by omega, rfl, fun j hj => absurd hj (by omega)⟩
  case round =>
    obtain ⟨k, hk, rfl, HI⟩ := hrel
    by_cases hlt : k < ts.length
    · rcases h with h | ⟨b, off, rfl, hc, hb, hcell⟩
      · exact absurd hlt (by rw [h]; simp)
      have c1 := hcell k hlt
      have hp1 : (k : Int) < (ts.length : Int) := by omega
      clear hcell
      by_cases hin : 1 ≤ (tnth ts k).size ∧ (tnth ts k).size ≤ 32
      · have gi : inP ((tnth ts k).size : Int) 1 32 = true := inP_yes (by omega) (by omega)
        by_cases hlast : k + 1 = ts.length
        · have HJ : Hid (∀ j, j < k + 1 → OneP ts j) := fun j hj => by
            by_cases e : j = k
            · subst e; exact ⟨hin.1, hin.2, fun hh => by omega⟩
            · exact HI.out j (by omega)
          have hq : ¬ (k : Int) < (ts.length : Int) - 1 := by omega
          clear hlast hin
          generalize tnth ts k = t at c1 gi
          go_wp2_with (go_at_call 29; refine (l01In_any _ _ _ _).mono ?_; rintro e w1 ⟨rfl, rfl⟩; rw [gi])
          go_round
          case rel => exact ⟨k + 1, by omega, by go_num, HJ⟩
          case measure => simp [intOf]; omega
        · have hq : (k : Int) < (ts.length : Int) - 1 := by omega
          by_cases h32 : (tnth ts k).size = 32
          · have HJ : Hid (∀ j, j < k + 1 → OneP ts j) := fun j hj => by
              by_cases e : j = k
              · subst e; exact ⟨hin.1, hin.2, fun _ => h32⟩
              · exact HI.out j (by omega)
            have h32' : (((tnth ts k).size : Int) != 32) = false := by simp; omega
            clear hlast hin h32
            generalize tnth ts k = t at c1 gi h32'
            go_wp2_with (go_at_call 29; refine (l01In_any _ _ _ _).mono ?_; rintro e w1 ⟨rfl, rfl⟩; rw [gi])
            go_round
            case rel => exact ⟨k + 1, by omega, by go_num, HJ⟩
            case measure => simp [intOf]; omega
          · have HE : Hid (pcB ts = false) := pcB_no fun hh => h32 ((hh.2 k hlt).2.2 (by omega))
            have h32' : (((tnth ts k).size : Int) != 32) = true := by simp; omega
            clear hlast hin h32
            generalize tnth ts k = t at c1 gi h32'
            go_wp2_with (go_at_call 29; refine (l01In_any _ _ _ _).mono ?_; rintro e w1 ⟨rfl, rfl⟩; rw [gi])
            go_ret
            exact ⟨retB HE.out.symm, rfl⟩
      · have gi : inP ((tnth ts k).size : Int) 1 32 = false := inP_no fun ⟨a1, a2⟩ => hin ⟨by omega, by omega⟩
        have HE : Hid (pcB ts = false) := pcB_no fun hh => hin ⟨(hh.2 k hlt).1, (hh.2 k hlt).2.1⟩
        clear hin
        generalize tnth ts k = t at c1 gi
        go_wp2_with (go_at_call 29; refine (l01In_any _ _ _ _).mono ?_; rintro e w1 ⟨rfl, rfl⟩; rw [gi])
        go_ret
        exact ⟨retB HE.out.symm, rfl⟩
    · obtain rfl : k = ts.length := by omega
      have HE : Hid (pcB ts = true) := HG.out HI.out
      go_wp2_with fail
      go_ret
      exact ⟨retB HE.out.symm, rfl⟩
end Go.Proofs.YtnebohdlndiejaaGreatDoor.Pf

/- Texts appended to, and what is left alone. -/
namespace Go.Proofs.YtnebohdlndiejaaGreatDoor.Tx
open Go.RowKit Go.Proofs.YtnebohdlndiejaaGreatDoor.Sl Go.Proofs.YtnebohdlndiejaaGreatDoor.By Go.Proofs.YtnebohdlndiejaaGreatDoor.Ap

/-- 'append(list, t ..)' in a plain region, with all that it leaves alone. -/
theorem list_txtK {P : Program} {i : TypeInfo} {ops : Array Oper} {rest : List Oper} {o : Oper} {a : Act} {Q : Exit → Act → World → Prop} (hgd : o.guard = none) (s x : Operand) (t : TypeId) (ho : o.op = .call { callee := .builtin .append, args := #[s, x], argTypes := #[t, t] }) (ht : P.underlying t = some (.slice 9)) (hi : P.info? 9 = some i) (hz : i.zero = some (.string ⟨#[]⟩))
    (hsize : i.size = 1) (hby : i.bytes = 16) (B : Nat) (W : World) (v u : Value) (zs xs : List ByteArray) (hs : a.eval s = v) (hx : a.eval x = u) (hown : OwnS W B v zs) (hB : B ≤ W.heap.size) (hu : RowT W u xs) (hlen : zs.length + xs.length ≤ 1000000000)
    (h : ∀ v' w', OwnS w' B v' (zs ++ xs) → Kp W w' v v' → wpList P ops Q rest (a.put o.dst v') w') : wpList P ops Q (o :: rest) a W := by
  refine wpList_plain hgd fun K hK => ?_
  obtain ⟨v', w', hr, ho', hg⟩ := run_txt (P := P) t o.type ht hi hz hsize hby B W v u zs xs hown hB hu hlen
  exact wp_app ho hs hx hr (hK _ _ (h v' w' ho' hg))
theorem step_txtK {P : Program} {i : TypeInfo} {ops : Array Oper} {o : Oper} {a : Act} {K : Act → World → Prop} {Q : Exit → Act → World → Prop} {E : Prop} (hgd : o.guard = none) (s x : Operand) (t : TypeId) (ho : o.op = .call { callee := .builtin .append, args := #[s, x], argTypes := #[t, t] }) (ht : P.underlying t = some (.slice 9)) (hi : P.info? 9 = some i) (hz : i.zero = some (.string ⟨#[]⟩))
    (hsize : i.size = 1) (hby : i.bytes = 16) (B : Nat) (W : World) (v u : Value) (zs xs : List ByteArray) (hs : a.eval s = v) (hx : a.eval x = u) (hown : OwnS W B v zs) (hB : B ≤ W.heap.size) (hu : RowT W u xs) (hlen : zs.length + xs.length ≤ 1000000000)
    (h : ∀ v' w', OwnS w' B v' (zs ++ xs) → Kp W w' v v' → K (a.put o.dst v') w') : if Region.wanted o (yielded ops a.tmps) = true then Oper.wp P o a W K Q else E := by
  have hw : Region.wanted o (yielded ops a.tmps) = true := by simp [Region.wanted, hgd]
  rw [if_pos hw]
  obtain ⟨v', w', hr, ho', hg⟩ := run_txt (P := P) t o.type ht hi hz hsize hby B W v u zs xs hown hB hu hlen
  exact wp_app ho hs hx hr (h v' w' ho' hg)
/-- A row that lies away from what was appended to. -/
def Away (v u : Value) : Prop := ∀ k, v.ownBlock = some k → u.ownBlock ≠ some k
theorem RowT.kp {w w' : World} {v u u' : Value} {ts : List ByteArray} (h : RowT w v ts) (ha : Away v u) (hk : Kp w w' u u') : RowT w' v ts := by
  obtain ⟨a, cap, rfl, h⟩ := h
  refine ⟨a, cap, rfl, ?_⟩
  rcases h with h | ⟨b, off, rfl, hc, hlt, h⟩
  · exact .inl h
  · have hb := hk.block b hlt (fun e => ha b rfl e.symm)
    exact .inr ⟨b, off, rfl, hc, Nat.lt_of_lt_of_le hlt hk.size, fun i hi => (World.cell?_of_block (a := ⟨b, off + i, none⟩) hb).trans (h i hi)⟩
theorem OwnS.kept {w w' : World} {B : Nat} {v u u' : Value} {ts : List ByteArray} (h : OwnS w B v ts) (ha : Away v u) (hk : Kp w w' u u') : OwnS w' B v ts := by
  obtain ⟨hl, h⟩ := h
  refine ⟨hl, ?_⟩
  rcases h with h | ⟨g, cap, cur, rfl, hB, hgb, h⟩
  · exact .inl h
  · exact .inr ⟨g, cap, cur, rfl, hB, (hk.block g (Array.getElem?_eq_some_iff.1 hgb).1 (fun e => ha g rfl e.symm)).trans hgb, h⟩
theorem OwnS.lt' {w : World} {B : Nat} {v : Value} {ts : List ByteArray} (h : OwnS w B v ts) : ∀ k, v.ownBlock = some k → B ≤ k ∧ k < w.heap.size := by
  unfold OwnS at h
  exact h.lt
end Go.Proofs.YtnebohdlndiejaaGreatDoor.Tx

/- Bytes cut into pieces: impl.partsOf, CutPieces, the specification's l09Cut and CutPieces. -/
namespace Go.Proofs.YtnebohdlndiejaaGreatDoor.Pg
open Go.RowKit Go.Proofs.YtnebohdlndiejaaGreatDoor.Sl Go.Proofs.YtnebohdlndiejaaGreatDoor.By Go.Proofs.YtnebohdlndiejaaGreatDoor.Ap Go.Proofs.YtnebohdlndiejaaGreatDoor.Tx Go.Proofs.YtnebohdlndiejaaGreatDoor.Pf

theorem nth_take {xs : List Int} {n i : Nat} (h : i < n) : nth (xs.take n) i = nth xs i := by
  unfold nth; rw [List.getD_eq_getElem?_getD, List.getD_eq_getElem?_getD, List.getElem?_take, if_pos h]
theorem nth_drop (xs : List Int) (n i : Nat) : nth (xs.drop n) i = nth xs (n + i) := by
  unfold nth; rw [List.getD_eq_getElem?_getD, List.getD_eq_getElem?_getD, List.getElem?_drop]
theorem rowB_take {w : World} {a : Option Addr} {cap n : Nat} {xs : List Int} (h : RowB w (.slice a xs.length cap) xs) (hn : n ≤ xs.length) : RowB w (.slice a n cap) (xs.take n) := by
  obtain ⟨a', cap', e, h, hr⟩ := h
  simp only [Value.slice.injEq, true_and] at e
  obtain ⟨rfl, rfl⟩ := e
  have hl : (xs.take n).length = n := by rw [List.length_take]; omega
  refine ⟨a, cap, by rw [hl], ?_, fun x hx => hr x (List.mem_of_mem_take hx)⟩
  rcases h with rfl | ⟨b, off, rfl, hc, hlt, h⟩
  · exact .inl (by simp)
  · refine .inr ⟨b, off, rfl, by rw [hl]; omega, hlt, fun i hi => ?_⟩
    rw [hl] at hi
    rw [nth_take hi]
    exact h i (by omega)
theorem rowB_drop {w : World} {a : Option Addr} {cap n : Nat} {xs : List Int} (h : RowB w (.slice a xs.length cap) xs) (hn : n ≤ xs.length) : RowB w (.slice (if cap = n then a else a.map (·.add n)) (xs.length - n) (cap - n)) (xs.drop n) := by
  obtain ⟨a', cap', e, h, hr⟩ := h
  simp only [Value.slice.injEq, true_and] at e
  obtain ⟨rfl, rfl⟩ := e
  refine ⟨_, cap - n, by rw [List.length_drop], ?_, fun x hx => hr x (List.mem_of_mem_drop hx)⟩
  by_cases he : xs.length = n
  · exact .inl (List.drop_eq_nil_of_le (by omega))
  · rcases h with rfl | ⟨b, off, rfl, hc, hlt, h⟩
    · exact .inl (by simp)
    · rw [if_neg (by omega)]
      refine .inr ⟨b, off + n, by simp [addr_add], by rw [List.length_drop]; omega, hlt, fun i hi => ?_⟩
      rw [List.length_drop] at hi
      rw [nth_drop, Nat.add_assoc]
      exact h (n + i) (by omega)
theorem run_conv_row {P : Program} (w : World) (src e dst : TypeId) (hs : P.underlying src = some (.slice e)) (he : P.underlying e = some (.int .u8)) (hd : P.underlying dst = some .string)
    (v : Value) (zs : List Int) (h : RowB w v zs) (hne : zs ≠ []) : (convert src dst v).run P w = .ok (.string (strOfNums zs)) w := by
  obtain ⟨a, cap, rfl, h, _⟩ := h
  rcases h with rfl | ⟨b, off, rfl, hc, hb, h⟩
  · exact absurd rfl hne
  · refine run_convert_bytes_arg w src e hs he b off zs.length cap zs rfl (fun i hi => ?_) dst hd
    exact h i hi

/-- The bytes of the k-th piece. -/
def pcn (xs : List Int) (k : Nat) : List Int := (xs.drop (32 * k)).take 32
def cutTo (xs : List Int) : Nat → List ByteArray
  | 0 => []
  | k + 1 => cutTo xs k ++ [strOfNums (pcn xs k)]
theorem cutTo_length (xs : List Int) : ∀ k, (cutTo xs k).length = k
  | 0 => rfl
  | k + 1 => by unfold cutTo; rw [List.length_append, cutTo_length xs k]; rfl
def cutN (xs : List Int) : Nat := (xs.length + 31) / 32
def cutC (xs : List Int) : Int := if 65536 < xs.length then 2 else if 2048 < xs.length then 7 else 0
def cutL (xs : List Int) : List ByteArray := if cutC xs = 0 then cutTo xs (cutN xs) else []
theorem cutL_small (xs : List Int) : (cutL xs).length ≤ 64 := by
  unfold cutL
  split
  · rename_i h
    rw [cutTo_length]
    unfold cutC at h
    unfold cutN
    split at h
    · cases h
    · split at h
      · cases h
      · omega
  · simp
theorem cut_long {xs : List Int} (h : 65536 < xs.length) : cutC xs = 2 ∧ cutL xs = [] := by
  have e : cutC xs = 2 := if_pos h
  exact ⟨e, by unfold cutL; rw [e]; rfl⟩
theorem cut_full {xs : List Int} (h0 : ¬ 65536 < xs.length) (h : 2048 < xs.length) : cutC xs = 7 ∧ cutL xs = [] := by
  have e : cutC xs = 7 := by unfold cutC; rw [if_neg h0, if_pos h]
  exact ⟨e, by unfold cutL; rw [e]; rfl⟩
theorem cut_ok {xs : List Int} (h : ¬ 2048 < xs.length) : cutC xs = 0 ∧ cutL xs = cutTo xs (cutN xs) := by
  have e : cutC xs = 0 := by unfold cutC; rw [if_neg (by omega), if_neg h]
  exact ⟨e, by unfold cutL; rw [e]; rfl⟩

/-- Slices of bytes in a slice of the call's own. -/
def OwnP (w : World) (B : Nat) (v : Value) (vs : List Value) : Prop := w.ownsRow B 86 1 v vs.length vs
theorem OwnP.cell {w : World} {B : Nat} {v : Value} {vs : List Value} (h : OwnP w B v vs) {j : Nat} {u : Value} (hj : vs[j]? = some u) : ∃ g cap, v = .slice (some ⟨g, 0, none⟩) vs.length cap ∧ vs.length ≤ cap ∧ g < w.heap.size ∧ w.cell? ⟨g, j, none⟩ = some u := by
  have hlt : j < vs.length := (List.getElem?_eq_some_iff.1 hj).1
  obtain ⟨hl, h⟩ := h
  rcases h with ⟨rfl, h0⟩ | ⟨g, cap, cur, rfl, hB, hg, hc, _, hs, htk⟩
  · omega
  · refine ⟨g, cap, rfl, hc, (Array.getElem?_eq_some_iff.1 hg).1, ?_⟩
    rw [Joins.cell_of_block hg j]
    have h1 : (cur.toList.take (vs.length * 1))[j]? = some u := by rw [htk]; exact hj
    rw [List.getElem?_take] at h1
    split at h1
    · simpa using h1
    · cases h1
theorem OwnP.form {w : World} {B : Nat} {v : Value} {vs : List Value} (h : OwnP w B v vs) : ∃ a cap, v = .slice a vs.length cap := by
  obtain ⟨hl, h⟩ := h
  rcases h with ⟨rfl, h0⟩ | ⟨g, cap, cur, rfl, _⟩
  · exact ⟨none, 0, by rw [h0]⟩
  · exact ⟨_, _, rfl⟩
theorem infoP : (Tryz.prog.info? 86).map (fun i => (i.zero, i.size, i.bytes)) = some (some (.slice none 0 0), 1, 24) := by kernel_rfl
/-- 'append(parts, part)' in a plain region. -/
theorem list_part {P : Program} {ops : Array Oper} {rest : List Oper} {o : Oper} {a : Act} {Q : Exit → Act → World → Prop} (hgd : o.guard = none) (s x : Operand) (t : TypeId)
    (ho : o.op = .call { callee := .builtin .append, args := #[s, x], argTypes := #[t, t] }) (i : TypeInfo) (ht : P.underlying t = some (.slice 86)) (hi : P.info? 86 = some i) (hz : i.zero = some (.slice none 0 0))
    (hsize : i.size = 1) (hby : i.bytes = 24) (B : Nat) (w0 W : World) (v : Value) (vs : List Value) (ad : Option Addr) (n c : Nat) (hs : a.eval s = v) (hown : OwnP W B v vs) (hg0 : Below B w0 W) (hB : B ≤ W.heap.size)
    (hx : a.eval x = .slice (some ⟨W.heap.size, 0, none⟩) 1 1) (hlen : vs.length ≤ 1000000)
    (h : ∀ v' w', OwnP w' B v' (vs ++ [.slice ad n c]) → Below B w0 w' → W.heap.size ≤ w'.heap.size → wpList P ops Q rest (a.put o.dst v') w') : wpList P ops Q (o :: rest) a (W.alloc (.cells #[.slice ad n c] 86)) := by
  refine wpList_append_own _ hgd s x t ho B 86 i (.slice none 0 0) 1 24 ht hi hz hsize hby rfl (by decide) v vs.length _ hs (hown.alloc _) ⟨W.heap.size, 0, none⟩ 1 1 [.slice ad n c] hx (by simp) ?_ ?_ ?_ ?_ ?_ ?_
  · have := World.news_of_block (cs := #[.slice ad n c]) (t := 86) (fr := (0, 0)) (heap_alloc_new W _)
    simpa using this
  · intro z hz
    rw [List.mem_singleton.1 hz]
    rfl
  · unfold maxLen; omega
  · omega
  · simp; omega
  · intro v' w' h1 h2 _
    have hs2 := h2.size
    simp at hs2
    refine h v' w' (by unfold OwnP; simpa using h1) ?_ (by omega)
    exact (hg0.alloc hB _).grown h2 (by simp; omega) (fun k hk => (World.ownsRow.lt hown k hk).1)

def slen : Value → Nat
  | .slice _ n _ => n
  | _ => 0
set_option maxRecDepth 100000 in
set_option maxHeartbeats 1600000 in
theorem partsOf_any (v : Value) (xs : List Int) (w : World) (h : RowB w v xs) (hl : xs.length ≤ 2048) :
    Calls Tryz.prog 140 #[v] w fun e w' => ∃ u, e = .returned u ∧ (∃ vs, vs.length = cutN xs ∧ OwnP w' w.heap.size u vs ∧ ∀ j, j < cutN xs → ∃ x, vs[j]? = some x ∧ RowB w x (pcn xs j)) ∧ Below w.heap.size w w' := by
  obtain ⟨i0, hi0, hz0, hz1, hz2⟩ := info_parts infoP
  have HR : Hid (RowB w v xs) := h
  have HL : Hid (∀ _ : Unit, xs.length ≤ 2048) := fun _ => hl
  obtain ⟨a, cap, rfl, _⟩ := h
  clear hl
  go_enter Tryz.func140, Tryz.ntmps140
  go_wp2_with fail
  go_loopw [0, 3] (fun b p wr => ∃ (k : Nat) (vs : List Value), k ≤ cutN xs ∧ vs.length = k ∧ RowB w b (xs.drop (32 * k)) ∧ OwnP wr w.heap.size p vs ∧ Hid (∀ j, j < k → ∃ x, vs[j]? = some x ∧ RowB w x (pcn xs j)) ∧ Below w.heap.size w wr) (fun b _ _ => slen b)
  case atStart => exact ⟨0, [], by omega, rfl, HR.out, World.ownsRow_nil _ _ _ _, fun j hj => absurd hj (by omega), Below.refl _ _⟩
  case round =>
    clear HR
    obtain ⟨k, vs, hk, HV, hb, ho, HI, hg⟩ := hrel
    obtain ⟨a', cap', rfl, hb2⟩ := id hb
    have hlen : (xs.drop (32 * k)).length = xs.length - 32 * k := List.length_drop
    rw [hlen] at hb ⊢
    have HV' : Hid (vs.length = k) := HV
    have hvl : vs.length ≤ 1000000 := by have := HL.out (); unfold cutN at hk; omega
    have HD : Hid ((xs.drop (32 * k)).length = xs.length - 32 * k) := hlen
    have hB : w.heap.size ≤ wr.heap.size := hg.size
    by_cases h0 : xs.length - 32 * k = 0
    · have HK : Hid (k = cutN xs) := by show _ = _; unfold cutN at hk ⊢; omega
      have HO : Hid (OwnP wr w.heap.size u3 vs) := ho
      rw [h0]
      clear hb hb2 HV hlen ho h0
      go_wp2_with fail
      go_ret
      exact ⟨_, rfl, ⟨vs, by rw [HV'.out, HK.out], HO.out, by rw [← HK.out]; exact HI.out⟩, hg⟩
    · have hcap : xs.length - 32 * k ≤ cap' := by
        rcases hb2.1 with hn | ⟨_, _, _, hc, _⟩
        · rw [hn] at hlen; simp at hlen; omega
        · omega
      have hK : k + 1 ≤ cutN xs := by unfold cutN at hk ⊢; omega
      have HBR : Hid (RowB w (.slice a' (xs.drop (32 * k)).length cap') (xs.drop (32 * k))) := by show RowB _ _ _; rw [hlen]; exact hb
      have HO : Hid (OwnP wr w.heap.size u3 vs) := ho
      obtain ⟨n, HN⟩ : ∃ n, Hid (xs.length - 32 * k = n) := ⟨_, rfl⟩
      rw [HN.out] at h0 hcap HD ⊢
      clear hb hb2 HV hlen ho
      have hn0 : (0 : Int) < (n : Int) := by omega
      by_cases h32 : 32 < n
      · have h32' : (32 : Int) < (n : Int) := by omega
        have HP : Hid (RowB w (.slice a' 32 cap') (pcn xs k)) := rowB_take HBR.out (by rw [HD.out]; omega)
        have HQ : Hid (RowB w (.slice (a'.map (·.add 32)) (n - 32) (cap' - 32)) (xs.drop (32 * (k + 1)))) := by
          have := rowB_drop HBR.out (show 32 ≤ (xs.drop (32 * k)).length by rw [HD.out]; omega)
          rw [HD.out, List.drop_drop, if_neg (by omega)] at this
          rw [show 32 * (k + 1) = 32 * k + 32 by omega]
          exact this
        have HJ : Hid (∀ j, j < k + 1 → ∃ x, (vs ++ [Value.slice a' 32 cap'])[j]? = some x ∧ RowB w x (pcn xs j)) := fun j hj => by
          by_cases e : j < k
          · obtain ⟨x, h1, h2⟩ := HI.out j e
            exact ⟨x, by rw [List.getElem?_append_left (by rw [HV'.out]; exact e)]; exact h1, h2⟩
          · obtain rfl : j = k := by omega
            exact ⟨_, by rw [List.getElem?_append_right (by rw [HV'.out]; exact Nat.le_refl _), HV'.out, Nat.sub_self]; rfl, HP.out⟩
        have hc32 : ¬ cap' = 32 := by omega
        go_wp2_with (at_builtin; go_must (refine list_part (by rfl) _ _ 204 (by rfl) i0 Tryz.underlying204 hi0 hz0 hz1 hz2 w.heap.size w wr _ vs _ _ _ (by rfl) HO.out hg hB (by rfl) hvl ?_; intro v3 w3 o3 b3 s3))
        exact ⟨⟨k + 1, _, hK, by rw [List.length_append, HV'.out]; rfl, HQ.out, o3, HJ, b3⟩, by simp [slen]; omega⟩
      · have h32' : ¬ (32 : Int) < (n : Int) := by omega
        have hm : (if (n : Int) < 32 then (n : Int) else 32) = (n : Int) := by split <;> omega
        have HP : Hid (RowB w (.slice a' n cap') (pcn xs k)) := by
          have := rowB_take HBR.out (show n ≤ (xs.drop (32 * k)).length by rw [HD.out]; omega)
          unfold pcn
          rw [List.take_of_length_le (by rw [HD.out]; omega)]
          rw [List.take_of_length_le (by rw [HD.out]; omega)] at this
          exact this
        have HQ : Hid (∀ b c, RowB w (.slice b 0 c) (xs.drop (32 * (k + 1)))) := fun b c => by
          have e : xs.drop (32 * (k + 1)) = [] := List.drop_eq_nil_of_le (by have := HN.out; omega)
          rw [e]
          exact ⟨b, c, rfl, .inl rfl, fun x hx => by cases hx⟩
        have HJ : Hid (∀ j, j < k + 1 → ∃ x, (vs ++ [Value.slice a' n cap'])[j]? = some x ∧ RowB w x (pcn xs j)) := fun j hj => by
          by_cases e : j < k
          · obtain ⟨x, h1, h2⟩ := HI.out j e
            exact ⟨x, by rw [List.getElem?_append_left (by rw [HV'.out]; exact e)]; exact h1, h2⟩
          · obtain rfl : j = k := by omega
            exact ⟨_, by rw [List.getElem?_append_right (by rw [HV'.out]; exact Nat.le_refl _), HV'.out, Nat.sub_self]; rfl, HP.out⟩
        by_cases hcn : cap' = n
        · subst hcn
          go_wp2_with (at_builtin; go_must (refine list_part (by rfl) _ _ 204 (by rfl) i0 Tryz.underlying204 hi0 hz0 hz1 hz2 w.heap.size w wr _ vs _ _ _ (by rfl) HO.out hg hB (by rfl) hvl ?_; intro v3 w3 o3 b3 s3))
          exact ⟨⟨k + 1, _, hK, by rw [List.length_append, HV'.out]; rfl, by first | exact HQ.out _ _ | (simp; exact HQ.out _ _), o3, HJ, b3⟩, by simp [slen]; omega⟩
        · go_wp2_with (at_builtin; go_must (refine list_part (by rfl) _ _ 204 (by rfl) i0 Tryz.underlying204 hi0 hz0 hz1 hz2 w.heap.size w wr _ vs _ _ _ (by rfl) HO.out hg hB (by rfl) hvl ?_; intro v3 w3 o3 b3 s3))
          exact ⟨⟨k + 1, _, hK, by rw [List.length_append, HV'.out]; rfl, by first | exact HQ.out _ _ | (simp; exact HQ.out _ _), o3, HJ, b3⟩, by simp [slen]; omega⟩
end Go.Proofs.YtnebohdlndiejaaGreatDoor.Pg

/- CutPieces: both functions. -/
namespace Go.Proofs.YtnebohdlndiejaaGreatDoor.Pg
open Go.RowKit Go.Proofs.YtnebohdlndiejaaGreatDoor.Sl Go.Proofs.YtnebohdlndiejaaGreatDoor.By Go.Proofs.YtnebohdlndiejaaGreatDoor.Ap Go.Proofs.YtnebohdlndiejaaGreatDoor.Tx Go.Proofs.YtnebohdlndiejaaGreatDoor.Pf

theorem pcn_ne {xs : List Int} {k : Nat} (h : k < cutN xs) : pcn xs k ≠ [] := by
  intro e
  have h1 : (pcn xs k).length = 0 := by rw [e]; rfl
  unfold pcn at h1
  rw [List.length_take, List.length_drop] at h1
  unfold cutN at h
  omega
set_option maxRecDepth 100000 in
set_option maxHeartbeats 1600000 in
theorem implCutPieces_any (v : Value) (xs : List Int) (w : World) (h : RowB w v xs) (hl : xs.length ≤ 1048576) :
    Calls Tryz.prog 109 #[v] w fun e w' => ∃ v', e = .returned (.tuple #[v', .int .i64 (cutC xs)]) ∧ OwnS w' w.heap.size v' (cutL xs) ∧ Below w.heap.size w w' := by
  obtain ⟨i0, hi0, hz0, hz1, hz2⟩ := info_parts info9
  have HR : Hid (RowB w v xs) := h
  obtain ⟨a, cap, rfl, _⟩ := h
  by_cases h1 : 65536 < xs.length
  · have h1' : (65536 : Int) < (xs.length : Int) := by omega
    have HE : Hid (cutC xs = 2 ∧ cutL xs = []) := cut_long h1
    clear h1
    go_enter Tryz.func109, Tryz.ntmps109
    go_wp2_with fail
    go_ret2
    rw [HE.out.1, HE.out.2]
    exact ⟨_, rfl, OwnS.nil _ _, Below.refl _ _⟩
  have h1' : ¬ (65536 : Int) < (xs.length : Int) := by omega
  by_cases h2 : 2048 < xs.length
  · have h2' : (2048 : Int) < (xs.length : Int) := by omega
    have HE : Hid (cutC xs = 7 ∧ cutL xs = []) := cut_full h1 h2
    clear h1 h2
    go_enter Tryz.func109, Tryz.ntmps109
    go_wp2_with fail
    go_ret2
    rw [HE.out.1, HE.out.2]
    exact ⟨_, rfl, OwnS.nil _ _, Below.refl _ _⟩
  have h2' : ¬ (2048 : Int) < (xs.length : Int) := by omega
  have HE : Hid (cutC xs = 0 ∧ cutL xs = cutTo xs (cutN xs)) := cut_ok h2
  have hN : cutN xs ≤ 64 := by unfold cutN; omega
  have HP : Hid (Calls Tryz.prog 140 #[.slice a xs.length cap] w fun e w' => ∃ u, e = .returned u ∧ (∃ vs, vs.length = cutN xs ∧ OwnP w' w.heap.size u vs ∧ ∀ j, j < cutN xs → ∃ x, vs[j]? = some x ∧ RowB w x (pcn xs j)) ∧ Below w.heap.size w w') := partsOf_any _ xs w HR.out (by omega)
  have HPN : Hid (∀ k, k < cutN xs → pcn xs k ≠ []) := fun k hk => pcn_ne hk
  generalize cutN xs = n at HE hN HP HPN
  clear h1 h2 HR hl
  go_enter Tryz.func109, Tryz.ntmps109
  go_wp2_with fail
  refine HP.out.mono ?_
  rintro e w1 ⟨u, rfl, ⟨vs, hv, o1, hrow⟩, b1⟩
  obtain ⟨ua, uc, rfl⟩ := OwnP.form o1
  rw [hv] at o1 ⊢
  have HV : Hid (vs.length = n) := hv
  have O1 : Hid (OwnP w1 w.heap.size (.slice ua vs.length uc) vs) := by show OwnP _ _ _ _; rw [hv]; exact o1
  have HW : Hid (∀ j, j < n → ∃ x, vs[j]? = some x ∧ RowB w x (pcn xs j)) := hrow
  have B1 : Hid (Below w.heap.size w w1) := b1
  clear hv o1 hrow b1 HP
  go_wp2_with fail
  go_loopw [4, 16] (fun l i wr => ∃ k : Nat, k ≤ n ∧ i = .int .i64 k ∧ OwnS wr w1.heap.size l (cutTo xs k) ∧ Below w1.heap.size w1 wr) (fun _ i _ => n - (intOf i).toNat)
  case atStart => exact ⟨0, by omega, rfl, OwnS.nil _ _, Below.refl _ _⟩
  case round =>
    obtain ⟨k, hk, rfl, ho, hb⟩ := hrel
    by_cases hlt : k < n
    · obtain ⟨x, hx, rx⟩ := HW.out k hlt
      obtain ⟨g, c, hu, hc, hg, hcell⟩ := O1.out.cell hx
      rw [HV.out] at hu hc
      obtain ⟨rfl, rfl⟩ : ua = some ⟨g, 0, none⟩ ∧ uc = c := by
        have := hu
        simp only [Value.slice.injEq, true_and] at this
        exact this
      have c1 : wr.cell? ⟨g, k, none⟩ = some x := (hb.cell (p := ⟨g, k, none⟩) hg).trans hcell
      have rx2 : RowB wr x (pcn xs k) := (rx.below B1.out).below hb
      have hcv := run_conv_row (P := Tryz.prog) wr 86 5 9 Tryz.underlying86 Tryz.underlying5 Tryz.underlying9 x _ rx2 (HPN.out k hlt)
      have hp1 : (k : Int) < (n : Int) := by omega
      have HO : Hid (OwnS wr w1.heap.size u4 (cutTo xs k)) := ho
      have hB : w1.heap.size ≤ wr.heap.size := hb.size
      have hln : (cutTo xs k).length ≤ 1000000 := by rw [cutTo_length]; omega
      obtain ⟨xa, xc, rfl, _⟩ := rx2
      clear hu hx rx hcell ho
      go_wp2_with (at_builtin; go_must (refine list_texts (by rfl) _ _ 49 (by rfl) i0 Tryz.underlying49 hi0 hz0 hz1 hz2 w1.heap.size w1 wr _ (cutTo xs k) [strOfNums (pcn xs k)] _ 1 rfl rfl (by decide) (by rfl) HO.out hb hB (by rfl) hln ?_; intro v3 w3 o3 b3 s3 k3))
      exact ⟨⟨k + 1, by omega, by go_num, o3, b3⟩, by simp [intOf]; omega⟩
    · obtain rfl : k = n := by omega
      have HO : Hid (OwnS wr w1.heap.size u4 (cutTo xs k)) := ho
      have HBB : Hid (Below w.heap.size w wr) := B1.out.trans (hb.mono B1.out.size)
      clear ho
      go_wp2_with fail
      go_ret2
      rw [HE.out.1, HE.out.2]
      exact ⟨_, rfl, HO.out.mono B1.out.size, HBB.out⟩

set_option maxRecDepth 100000 in
set_option maxHeartbeats 1600000 in
theorem l09Cut_any (v : Value) (xs : List Int) (w : World) (h : RowB w v xs) (hl : xs.length ≤ 2048) :
    Calls Tryz.prog 59 #[v] w fun e w' => ∃ v', e = .returned v' ∧ OwnS w' w.heap.size v' (cutTo xs (cutN xs)) ∧ Below w.heap.size w w' := by
  obtain ⟨i0, hi0, hz0, hz1, hz2⟩ := info_parts info9
  have HR : Hid (RowB w v xs) := h
  obtain ⟨a, cap, rfl, hcp, _⟩ := h
  have HC : Hid (xs = [] ∨ xs.length ≤ cap) := hcp.imp id fun ⟨_, _, _, h, _⟩ => h
  clear hcp
  have HN : Hid (∀ k, k ≤ cutN xs ↔ 32 * k < xs.length + 32) := fun k => by unfold cutN; omega
  have HPN : Hid (∀ k, k < cutN xs → pcn xs k ≠ []) := fun k hk => pcn_ne hk
  have HM : Hid (cutN xs ≤ 64) := by show _ ≤ _; unfold cutN; omega
  generalize cutN xs = n at HN HPN HM
  have hB0 : Below w.heap.size w (w.alloc (.cells #[] 9)) := bel_new _ _
  have O0 : Hid (OwnS (w.alloc (.cells #[] 9)) w.heap.size (.slice (some ⟨w.heap.size, 0, none⟩) 0 0) []) := OwnS.made w _ (Nat.le_refl _)
  go_enter Tryz.func59, Tryz.ntmps59
  go_wp2_with fail
  go_loopw [3, 4] (fun l i wr => ∃ k : Nat, k ≤ n ∧ i = .int .i64 (32 * (k : Int)) ∧ OwnS wr w.heap.size l (cutTo xs k) ∧ Below w.heap.size w wr) (fun _ i _ => 32 * n - (intOf i).toNat)
  case atStart => exact ⟨0, by omega, rfl, O0.out, hB0⟩
  case round =>
    clear O0 hB0
    obtain ⟨k, hk, rfl, ho, hb⟩ := hrel
    have hK1 := HN.out k
    have hK2 := HN.out (k + 1)
    by_cases hlt : k < n
    · have hi1 : 32 * k < xs.length := by omega
      have hi1' : 32 * (k : Int) < (xs.length : Int) := by omega
      have hcap : xs.length ≤ cap := by
        rcases HC.out with h | h
        · rw [h] at hi1; simp at hi1
        · exact h
      have HO : Hid (OwnS wr w.heap.size u3 (cutTo xs k)) := ho
      have hB : w.heap.size ≤ wr.heap.size := hb.size
      have hln : (cutTo xs k).length ≤ 1000000 := by rw [cutTo_length]; have := HM.out; omega
      have rd := rowB_drop HR.out (show 32 * k ≤ xs.length by omega)
      rw [if_neg (by omega)] at rd
      obtain ⟨m, hm1, hm2⟩ : ∃ m : Nat, m = min xs.length (32 * k + 32) ∧ pcn xs k = (xs.drop (32 * k)).take (m - 32 * k) := ⟨_, rfl, by
        unfold pcn
        by_cases h32 : xs.length ≤ 32 * k + 32
        · rw [Nat.min_eq_left h32, List.take_of_length_le (by rw [List.length_drop]; omega), List.take_of_length_le (by rw [List.length_drop]; omega)]
        · rw [Nat.min_eq_right (by omega), show 32 * k + 32 - 32 * k = 32 by omega]⟩
      have rt : RowB w (.slice (a.map (·.add (32 * k))) (m - 32 * k) (cap - 32 * k)) (pcn xs k) := by
        rw [hm2]
        exact rowB_take (by rw [List.length_drop]; exact rd) (by rw [List.length_drop]; omega)
      have rx2 := rt.below hb
      have hcv := run_conv_row (P := Tryz.prog) wr 86 5 9 Tryz.underlying86 Tryz.underlying5 Tryz.underlying9 _ _ rx2 (HPN.out k hlt)
      have hw1 : IntKind.i64.wrap (32 * (k : Int) + 32) = 32 * (k : Int) + 32 := by rw [IntKind.wrap_i64]; omega
      have hmn : (if 32 * (k : Int) + 32 < (xs.length : Int) then 32 * (k : Int) + 32 else (xs.length : Int)) = (m : Int) := by split <;> omega
      have e1 : (32 * (k : Int)).toNat = 32 * k := by omega
      have e2 : ((m : Int) - 32 * (k : Int)).toNat = m - 32 * k := by omega
      have q1 : (0 : Int) ≤ 32 * (k : Int) := by omega
      have q2 : 32 * (k : Int) ≤ (m : Int) := by omega
      have q3 : (m : Int) ≤ (cap : Int) := by omega
      have q4 : ¬ cap = 32 * k := by omega
      clear rd rt rx2 hm1 hm2 ho hK1 hK2
      go_wp2_with (at_builtin; go_must (refine list_texts (by rfl) _ _ 49 (by rfl) i0 Tryz.underlying49 hi0 hz0 hz1 hz2 w.heap.size w wr _ (cutTo xs k) [strOfNums (pcn xs k)] _ 1 rfl rfl (by decide) (by rfl) HO.out hb hB (by rfl) hln ?_; intro v3 w3 o3 b3 s3 k3))
      exact ⟨⟨k + 1, by omega, val_eq (by omega), o3, b3⟩, by simp [intOf]; omega⟩
    · obtain rfl : k = n := by omega
      have hge : ¬ 32 * (k : Int) < (xs.length : Int) := by omega
      have HO : Hid (OwnS wr w.heap.size u3 (cutTo xs k)) := ho
      clear ho hK1 hK2
      go_wp2_with fail
      go_ret
      exact ⟨_, rfl, HO.out, hb⟩
end Go.Proofs.YtnebohdlndiejaaGreatDoor.Pg
