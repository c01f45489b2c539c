/- The package variables that the row lists: the table of round constants, the sentinels. -/
import Derived.Test.YtnebohdlndiejaaGreatDoorShaX
import Derived.Test.YtnebohdlndiejaaGreatDoorEr
import Derived.Test.YtnebohdlndiejaaGreatDoorCards
import Derived.Test.YtnebohdlndiejaaGreatDoorTie
import Derived.ProofKit
import Derived.LaidMore
import Derived.OpenShut
import Derived.OpenVars
import Derived.Stop.Joined
import Derived.Stop.LaidErr
import Derived.ShutString
import Derived.Lib.LaidTab
namespace Go.Proofs.YtnebohdlndiejaaGreatDoor.Hl
open Go.ChangeShapes Go.WideShapes Go.ChangeAt Go.RowKit Go.Proofs.YtnebohdlndiejaaGreatDoor.Sh Go.Proofs.YtnebohdlndiejaaGreatDoor.Er

theorem own : ownKnob Tryz.prog.godebug = none := by kernel_rfl
theorem laidOut : laidOutB Tryz.prog = true := by kernel_rfl
theorem gTab : Tryz.prog.globalNamed "loop.example/g00292/impl.roundWords" = some 10 := by kernel_rfl
theorem tTab : (Tryz.prog.globals[10]?).map (·.type) = some 250 := by kernel_rfl
theorem cells64 : Tryz.prog.cellsOf 250 = 64 := by kernel_rfl
theorem cells1 : Tryz.prog.cellsOf 191 = 1 := by kernel_rfl
theorem rowed : varsRowed Tryz.prog ["loop.example/g00292/impl.roundWords"] = true := by kernel_rfl
theorem cellsE : Tryz.prog.cellsOf 282 = 1 := by kernel_rfl
theorem cellsS : Tryz.prog.cellsOf 9 = 1 := by kernel_rfl
theorem star : "*" ++ "errors.errorString" = "*errors.errorString" := by decide
theorem rowE (u : TypeId) (h : Tryz.prog.typeName? 3 u = some "*errors.errorString") : u = 259 :=
  typeName_ptr_named (nm := "errors.errorString") (by rw [star]; kernel_rfl) (by kernel_rfl) (by decide) u (by rw [star]; exact h)
theorem g_errTooLong : Tryz.prog.globalNamed "loop.example/g00292/impl.errTooLong" = some 0 := by kernel_rfl
theorem t_errTooLong : (Tryz.prog.globals[0]?).map (·.type) = some 68 := by kernel_rfl
theorem g_errNoTable : Tryz.prog.globalNamed "loop.example/g00292/impl.errNoTable" = some 5 := by kernel_rfl
theorem t_errNoTable : (Tryz.prog.globals[5]?).map (·.type) = some 68 := by kernel_rfl
theorem g_errOutside : Tryz.prog.globalNamed "loop.example/g00292/impl.errOutside" = some 1 := by kernel_rfl
theorem t_errOutside : (Tryz.prog.globals[1]?).map (·.type) = some 68 := by kernel_rfl
theorem g_errNoProof : Tryz.prog.globalNamed "loop.example/g00292/impl.errNoProof" = some 6 := by kernel_rfl
theorem t_errNoProof : (Tryz.prog.globals[6]?).map (·.type) = some 68 := by kernel_rfl
theorem g_errOtherRoot : Tryz.prog.globalNamed "loop.example/g00292/impl.errOtherRoot" = some 7 := by kernel_rfl
theorem t_errOtherRoot : (Tryz.prog.globals[7]?).map (·.type) = some 68 := by kernel_rfl
theorem g_errNotSigned : Tryz.prog.globalNamed "loop.example/g00292/impl.errNotSigned" = some 3 := by kernel_rfl
theorem t_errNotSigned : (Tryz.prog.globals[3]?).map (·.type) = some 68 := by kernel_rfl
theorem g_errNoQuorum : Tryz.prog.globalNamed "loop.example/g00292/impl.errNoQuorum" = some 2 := by kernel_rfl
theorem t_errNoQuorum : (Tryz.prog.globals[2]?).map (·.type) = some 68 := by kernel_rfl
theorem g_errNotRight : Tryz.prog.globalNamed "loop.example/g00292/impl.errNotRight" = some 4 := by kernel_rfl
theorem t_errNotRight : (Tryz.prog.globals[4]?).map (·.type) = some 68 := by kernel_rfl
abbrev laidList : List (String × DataW Unit) := [("math/bits.deBruijn32tab", Rows.laid_math_bits_deBruijn32tab), ("math/bits.deBruijn64tab", Rows.laid_math_bits_deBruijn64tab), ("internal/strconv.uint64pow10", Rows.laid_internal_strconv_uint64pow10), ("loop.example/g00292/impl.roundWords", Rows.laid_loop_example_g00292_impl_roundWords), ("loop.example/g00292/impl.errNotRight", Rows.laid_loop_example_g00292_impl_errNotRight), ("loop.example/g00292/impl.errTooLong", Rows.laid_loop_example_g00292_impl_errTooLong), ("loop.example/g00292/impl.errNoTable", Rows.laid_loop_example_g00292_impl_errNoTable), ("loop.example/g00292/impl.errOutside", Rows.laid_loop_example_g00292_impl_errOutside), ("loop.example/g00292/impl.errNoProof", Rows.laid_loop_example_g00292_impl_errNoProof), ("loop.example/g00292/impl.errOtherRoot", Rows.laid_loop_example_g00292_impl_errOtherRoot), ("loop.example/g00292/impl.errNotSigned", Rows.laid_loop_example_g00292_impl_errNotSigned), ("loop.example/g00292/impl.errNoQuorum", Rows.laid_loop_example_g00292_impl_errNoQuorum)]
theorem door_met (os : Os) (args : Array Value) : laidMetH Tryz.prog laidList ((World.doorLaid Tryz.prog 400 os).forCall (fun _ _ => 0) ⟨#[], args, []⟩).memory :=
  laidMetH_of_parts3 (fuel := 8) (laidMet_of_run' 8 (by kernel_rfl) (by kernel_rfl)) (by kernel_rfl) (by kernel_rfl)
theorem list_eq : (Rows.laid_loop_example_g00292_impl_roundWords : DataW Unit) = Lib.tabData .u32 (kList.map nat) := by kernel_rfl
theorem k_len : kList.length = 64 := by decide
/-- One sentinel of the list, with its block. -/
theorem sentinel {P : Program} {n nm : String} {text : List UInt8} {r : List (String × DataW Unit)} {W : World} {g : Nat} {ti tp te ts : TypeId} {ms : Array (String × TypeId)} {f : Field}
    (h : laidMet P ((n, .iface nm (.ptr (.agg [.lit (.string text)]))) :: r) W)
    (hg : P.globalNamed n = some g) (ht : (P.globals[g]?).map (·.type) = some ti) (hi : P.underlying ti = some (.interface ms)) (hrow : ∀ u, P.typeName? 3 u = some nm → u = tp)
    (hp : P.underlying tp = some (.pointer te)) (he : P.underlying te = some (.struct #[f])) (hft : f.type = ts) (hfo : f.offset = 0) (hs : P.underlying ts = some .string) (hc : P.cellsOf te = 1) (hcs : P.cellsOf ts = 1) :
    ∃ (a : Addr) (s : ByteArray), W.var? P n = some #[.iface tp (.pointer (some a))] ∧ W.cell? a = some (.string s) ∧ s.data.toList = text ∧ ∃ c t, W.heap[a.block]? = some (.cells c t (0, 0)) := by
  obtain ⟨ps, ⟨g0, t0, cs0, f0, p0, q0, hg0, ht0, hv0, hd0, _, e0⟩, _, hrows⟩ := h
  obtain rfl := Option.some.inj (hg.symm.trans hg0)
  obtain rfl := Option.some.inj (ht.symm.trans ht0)
  subst e0
  obtain ⟨l0⟩ := cs0
  have ok0 : ∀ u v, l0 = [.iface u v] → Value.okWide P W .any 0 u v := fun u v e => by
    subst e
    exact (hrows g 0 (by simp [MemPlace.row])).2 u v (by simpa using World.var?_cell hg0 hv0 0)
  obtain ⟨a0, s0, rfl, hc0, hs0, hz0, rfl⟩ := errorString_of_trod hi hrow hp he hft hfo hs hc hcs hd0 ok0
  exact ⟨a0, s0, hv0, hc0, hs0, (hrows a0.block a0.off (by simp [MemPlace.row])).1⟩
theorem tailV {H : Type} {enc : TypeId × Value → H} {P : Program} {w : World} {sp : Nat → Bool} {n : String} {ns : List String} {gs : List (DataW H)} {ps : List MemPlace} (h : DataW.TrodVars enc P w sp (n :: ns) gs ps) : ∃ d ds q, gs = d :: ds ∧ DataW.TrodVars enc P w sp ns ds q := by
  cases gs with
  | nil => simp [DataW.TrodVars] at h
  | cons d ds =>
    obtain ⟨g, t, cs, fuel, p, q, h1, h2, h3, h4, hs, e⟩ := h
    exact ⟨d, ds, q, rfl, hs⟩
theorem consV {H : Type} (enc : TypeId × Value → H) {P : Program} {W : World} {n : String} {g : Nat} {ti : TypeId} {ms : Array (String × TypeId)} {x : Value} {ns : List String} {gs : List (DataW H)} {ps : List MemPlace} {sp : Nat → Bool}
    (hg : P.globalNamed n = some g) (ht : (P.globals[g]?).map (·.type) = some ti) (hi : P.underlying ti = some (.interface ms)) (h : W.var? P n = some #[x]) (ix : IsIface x) (hr : DataW.TrodVars enc P W sp ns gs ps) :
    DataW.TrodVars enc P W sp (n :: ns) (tok enc x :: gs) (.cell g 0 :: ps) :=
  ⟨g, ti, #[x], 1, [], ps, hg, ht, h, trod_held hi ix 0, hr, rfl⟩
/-- What the sentinels' variables hold. -/
structure Vars (W : World) (A : Nat → Addr) : Prop where
  v0 : W.var? Tryz.prog "loop.example/g00292/impl.errTooLong" = some #[sen (A 0)]
  v1 : W.var? Tryz.prog "loop.example/g00292/impl.errNoTable" = some #[sen (A 1)]
  v2 : W.var? Tryz.prog "loop.example/g00292/impl.errOutside" = some #[sen (A 2)]
  v3 : W.var? Tryz.prog "loop.example/g00292/impl.errNoProof" = some #[sen (A 3)]
  v4 : W.var? Tryz.prog "loop.example/g00292/impl.errOtherRoot" = some #[sen (A 4)]
  v5 : W.var? Tryz.prog "loop.example/g00292/impl.errNotSigned" = some #[sen (A 5)]
  v6 : W.var? Tryz.prog "loop.example/g00292/impl.errNoQuorum" = some #[sen (A 6)]
  v7 : W.var? Tryz.prog "loop.example/g00292/impl.errNotRight" = some #[sen (A 7)]
theorem var_kept {P : Program} {W W' : World} {n : String} {cs : Array Value} (hb : Below W.heap.size W W') (h : W.var? P n = some cs) : W'.var? P n = some cs := by
  unfold World.var? at h ⊢
  cases hg : P.globalNamed n with
  | none => simp [hg] at h
  | some g =>
    simp only [hg, Option.bind_some] at h ⊢
    have hlt : g < W.heap.size := by
      rcases Nat.lt_or_ge g W.heap.size with h' | h'
      · exact h'
      · simp [Array.getElem?_eq_none h'] at h
    rw [hb.block g hlt]
    exact h
theorem Vars.below {W W' : World} {A : Nat → Addr} (h : Vars W A) (hb : Below W.heap.size W W') : Vars W' A := ⟨var_kept hb h.v0, var_kept hb h.v1, var_kept hb h.v2, var_kept hb h.v3, var_kept hb h.v4, var_kept hb h.v5, var_kept hb h.v6, var_kept hb h.v7⟩
theorem ne_of {W : World} {a b : Addr} {s t : ByteArray} (ha : W.cell? a = some (.string s)) (hb : W.cell? b = some (.string t)) (h : s.data.toList ≠ t.data.toList) : a ≠ b := fun e => by
  subst e
  rw [ha] at hb
  cases hb
  exact h rfl
def names : List String := ["loop.example/g00292/impl.errTooLong", "loop.example/g00292/impl.errNotSigned", "loop.example/g00292/impl.errNotRight", "loop.example/g00292/impl.errNoTable", "loop.example/g00292/impl.errOutside", "loop.example/g00292/impl.errNoProof", "loop.example/g00292/impl.errOtherRoot", "loop.example/g00292/impl.errNoQuorum", "loop.example/g00292/impl.roundWords"]
theorem readV {H : Type} (enc : TypeId × Value → H) {W : World} {A : Nat → Addr} (h : Vars W A) {sp : Nat → Bool} {dv : DataW H} {q : List MemPlace} (T : DataW.TrodVars enc Tryz.prog W sp ["loop.example/g00292/impl.roundWords"] [dv] q) :
    DataW.TrodVars enc Tryz.prog W sp ["loop.example/g00292/impl.errTooLong", "loop.example/g00292/impl.errNotSigned", "loop.example/g00292/impl.errNotRight", "loop.example/g00292/impl.errNoTable", "loop.example/g00292/impl.errOutside", "loop.example/g00292/impl.errNoProof", "loop.example/g00292/impl.errOtherRoot", "loop.example/g00292/impl.errNoQuorum", "loop.example/g00292/impl.roundWords"] [tok enc (sen (A 0)), tok enc (sen (A 5)), tok enc (sen (A 7)), tok enc (sen (A 1)), tok enc (sen (A 2)), tok enc (sen (A 3)), tok enc (sen (A 4)), tok enc (sen (A 6)), dv] (.cell 0 0 :: .cell 3 0 :: .cell 4 0 :: .cell 5 0 :: .cell 1 0 :: .cell 6 0 :: .cell 7 0 :: .cell 2 0 :: q) :=
  (consV enc g_errTooLong t_errTooLong Tryz.underlying68 h.v0 trivial (consV enc g_errNotSigned t_errNotSigned Tryz.underlying68 h.v5 trivial (consV enc g_errNotRight t_errNotRight Tryz.underlying68 h.v7 trivial (consV enc g_errNoTable t_errNoTable Tryz.underlying68 h.v1 trivial (consV enc g_errOutside t_errOutside Tryz.underlying68 h.v2 trivial (consV enc g_errNoProof t_errNoProof Tryz.underlying68 h.v3 trivial (consV enc g_errOtherRoot t_errOtherRoot Tryz.underlying68 h.v4 trivial (consV enc g_errNoQuorum t_errNoQuorum Tryz.underlying68 h.v6 trivial T))))))))
set_option maxRecDepth 100000 in
/-- What the row's list gives the walks. -/
theorem tab_of {W : World} (h : laidMetH Tryz.prog laidList W) : (KTab W ∧ 10 < W.heap.size) ∧ ∃ A, Sen W A ∧ Vars W A := by
  rw [MakeChecks.laidMetH_plain _ _ _ (by kernel_rfl)] at h
  replace h := laidMet.tail h
  replace h := laidMet.tail h
  replace h := laidMet.tail h
  have h0 := h
  obtain ⟨ps, ⟨g0, t0, cs0, f0, p0, q0, hg0, ht0, hv0, hd0, _, _⟩, _, _⟩ := h
  obtain rfl := Option.some.inj (gTab.symm.trans hg0)
  obtain rfl := Option.some.inj (tTab.symm.trans ht0)
  have e : cs0.toList = (kList.map nat).map fun z => Value.int .u32 z := Lib.cells_of_tab Tryz.underlying250 Tryz.underlying191 cells1 cells64 (by rw [← list_eq]; exact hd0)
  have ht : KTab W := by
    intro i hi
    have hl := k_len
    rw [World.var?_cell hg0 hv0 i, ← Array.getElem?_toList, e, List.map_map, List.getElem?_map, List.getElem?_eq_getElem (by omega)]
    unfold kt
    rw [List.getD_eq_getElem?_getD, List.getElem?_eq_getElem (by omega)]
    rfl
  refine ⟨⟨ht, World.block_lt_of_cell? W _ (ht 0 (by decide))⟩, ?_⟩
  have k0 := laidMet.tail h0
  obtain ⟨a7, s7, v7, c7, x7, b7⟩ := sentinel k0 g_errNotRight t_errNotRight Tryz.underlying68 rowE Tryz.underlying259 Tryz.underlying282 rfl rfl Tryz.underlying9 cellsE cellsS
  have k1 := laidMet.tail k0
  obtain ⟨a0, s0, v0, c0, x0, b0⟩ := sentinel k1 g_errTooLong t_errTooLong Tryz.underlying68 rowE Tryz.underlying259 Tryz.underlying282 rfl rfl Tryz.underlying9 cellsE cellsS
  have k2 := laidMet.tail k1
  obtain ⟨a1, s1, v1, c1, x1, b1⟩ := sentinel k2 g_errNoTable t_errNoTable Tryz.underlying68 rowE Tryz.underlying259 Tryz.underlying282 rfl rfl Tryz.underlying9 cellsE cellsS
  have k3 := laidMet.tail k2
  obtain ⟨a2, s2, v2, c2, x2, b2⟩ := sentinel k3 g_errOutside t_errOutside Tryz.underlying68 rowE Tryz.underlying259 Tryz.underlying282 rfl rfl Tryz.underlying9 cellsE cellsS
  have k4 := laidMet.tail k3
  obtain ⟨a3, s3, v3, c3, x3, b3⟩ := sentinel k4 g_errNoProof t_errNoProof Tryz.underlying68 rowE Tryz.underlying259 Tryz.underlying282 rfl rfl Tryz.underlying9 cellsE cellsS
  have k5 := laidMet.tail k4
  obtain ⟨a4, s4, v4, c4, x4, b4⟩ := sentinel k5 g_errOtherRoot t_errOtherRoot Tryz.underlying68 rowE Tryz.underlying259 Tryz.underlying282 rfl rfl Tryz.underlying9 cellsE cellsS
  have k6 := laidMet.tail k5
  obtain ⟨a5, s5, v5, c5, x5, b5⟩ := sentinel k6 g_errNotSigned t_errNotSigned Tryz.underlying68 rowE Tryz.underlying259 Tryz.underlying282 rfl rfl Tryz.underlying9 cellsE cellsS
  have k7 := laidMet.tail k6
  obtain ⟨a6, s6, v6, c6, x6, b6⟩ := sentinel k7 g_errNoQuorum t_errNoQuorum Tryz.underlying68 rowE Tryz.underlying259 Tryz.underlying282 rfl rfl Tryz.underlying9 cellsE cellsS
  refine ⟨fun k => [a0, a1, a2, a3, a4, a5, a6, a7].getD k a0, ⟨by simpa [sen] using World.var?_cell g_errTooLong v0 0, by simpa [sen] using World.var?_cell g_errNoTable v1 0, by simpa [sen] using World.var?_cell g_errOutside v2 0, by simpa [sen] using World.var?_cell g_errNoProof v3 0, by simpa [sen] using World.var?_cell g_errOtherRoot v4 0, by simpa [sen] using World.var?_cell g_errNotSigned v5 0, by simpa [sen] using World.var?_cell g_errNoQuorum v6 0, by simpa [sen] using World.var?_cell g_errNotRight v7 0, ?_, ?_⟩, ⟨v0, v1, v2, v3, v4, v5, v6, v7⟩⟩
  · intro i hi
    rcases (by omega : i = 0 ∨ i = 1 ∨ i = 2 ∨ i = 3 ∨ i = 4 ∨ i = 5 ∨ i = 6 ∨ i = 7) with rfl | rfl | rfl | rfl | rfl | rfl | rfl | rfl
    · exact b0
    · exact b1
    · exact b2
    · exact b3
    · exact b4
    · exact b5
    · exact b6
    · exact b7
  · intro i j hi hj hij
    rcases (by omega : i = 0 ∨ i = 1 ∨ i = 2 ∨ i = 3 ∨ i = 4 ∨ i = 5 ∨ i = 6 ∨ i = 7) with rfl | rfl | rfl | rfl | rfl | rfl | rfl | rfl
    · rcases (by omega : j = 1 ∨ j = 2 ∨ j = 3 ∨ j = 4 ∨ j = 5 ∨ j = 6 ∨ j = 7) with rfl | rfl | rfl | rfl | rfl | rfl | rfl
      · exact ne_of c0 c1 (by rw [x0, x1]; decide)
      · exact ne_of c0 c2 (by rw [x0, x2]; decide)
      · exact ne_of c0 c3 (by rw [x0, x3]; decide)
      · exact ne_of c0 c4 (by rw [x0, x4]; decide)
      · exact ne_of c0 c5 (by rw [x0, x5]; decide)
      · exact ne_of c0 c6 (by rw [x0, x6]; decide)
      · exact ne_of c0 c7 (by rw [x0, x7]; decide)
    · rcases (by omega : j = 0 ∨ j = 2 ∨ j = 3 ∨ j = 4 ∨ j = 5 ∨ j = 6 ∨ j = 7) with rfl | rfl | rfl | rfl | rfl | rfl | rfl
      · exact ne_of c1 c0 (by rw [x1, x0]; decide)
      · exact ne_of c1 c2 (by rw [x1, x2]; decide)
      · exact ne_of c1 c3 (by rw [x1, x3]; decide)
      · exact ne_of c1 c4 (by rw [x1, x4]; decide)
      · exact ne_of c1 c5 (by rw [x1, x5]; decide)
      · exact ne_of c1 c6 (by rw [x1, x6]; decide)
      · exact ne_of c1 c7 (by rw [x1, x7]; decide)
    · rcases (by omega : j = 0 ∨ j = 1 ∨ j = 3 ∨ j = 4 ∨ j = 5 ∨ j = 6 ∨ j = 7) with rfl | rfl | rfl | rfl | rfl | rfl | rfl
      · exact ne_of c2 c0 (by rw [x2, x0]; decide)
      · exact ne_of c2 c1 (by rw [x2, x1]; decide)
      · exact ne_of c2 c3 (by rw [x2, x3]; decide)
      · exact ne_of c2 c4 (by rw [x2, x4]; decide)
      · exact ne_of c2 c5 (by rw [x2, x5]; decide)
      · exact ne_of c2 c6 (by rw [x2, x6]; decide)
      · exact ne_of c2 c7 (by rw [x2, x7]; decide)
    · rcases (by omega : j = 0 ∨ j = 1 ∨ j = 2 ∨ j = 4 ∨ j = 5 ∨ j = 6 ∨ j = 7) with rfl | rfl | rfl | rfl | rfl | rfl | rfl
      · exact ne_of c3 c0 (by rw [x3, x0]; decide)
      · exact ne_of c3 c1 (by rw [x3, x1]; decide)
      · exact ne_of c3 c2 (by rw [x3, x2]; decide)
      · exact ne_of c3 c4 (by rw [x3, x4]; decide)
      · exact ne_of c3 c5 (by rw [x3, x5]; decide)
      · exact ne_of c3 c6 (by rw [x3, x6]; decide)
      · exact ne_of c3 c7 (by rw [x3, x7]; decide)
    · rcases (by omega : j = 0 ∨ j = 1 ∨ j = 2 ∨ j = 3 ∨ j = 5 ∨ j = 6 ∨ j = 7) with rfl | rfl | rfl | rfl | rfl | rfl | rfl
      · exact ne_of c4 c0 (by rw [x4, x0]; decide)
      · exact ne_of c4 c1 (by rw [x4, x1]; decide)
      · exact ne_of c4 c2 (by rw [x4, x2]; decide)
      · exact ne_of c4 c3 (by rw [x4, x3]; decide)
      · exact ne_of c4 c5 (by rw [x4, x5]; decide)
      · exact ne_of c4 c6 (by rw [x4, x6]; decide)
      · exact ne_of c4 c7 (by rw [x4, x7]; decide)
    · rcases (by omega : j = 0 ∨ j = 1 ∨ j = 2 ∨ j = 3 ∨ j = 4 ∨ j = 6 ∨ j = 7) with rfl | rfl | rfl | rfl | rfl | rfl | rfl
      · exact ne_of c5 c0 (by rw [x5, x0]; decide)
      · exact ne_of c5 c1 (by rw [x5, x1]; decide)
      · exact ne_of c5 c2 (by rw [x5, x2]; decide)
      · exact ne_of c5 c3 (by rw [x5, x3]; decide)
      · exact ne_of c5 c4 (by rw [x5, x4]; decide)
      · exact ne_of c5 c6 (by rw [x5, x6]; decide)
      · exact ne_of c5 c7 (by rw [x5, x7]; decide)
    · rcases (by omega : j = 0 ∨ j = 1 ∨ j = 2 ∨ j = 3 ∨ j = 4 ∨ j = 5 ∨ j = 7) with rfl | rfl | rfl | rfl | rfl | rfl | rfl
      · exact ne_of c6 c0 (by rw [x6, x0]; decide)
      · exact ne_of c6 c1 (by rw [x6, x1]; decide)
      · exact ne_of c6 c2 (by rw [x6, x2]; decide)
      · exact ne_of c6 c3 (by rw [x6, x3]; decide)
      · exact ne_of c6 c4 (by rw [x6, x4]; decide)
      · exact ne_of c6 c5 (by rw [x6, x5]; decide)
      · exact ne_of c6 c7 (by rw [x6, x7]; decide)
    · rcases (by omega : j = 0 ∨ j = 1 ∨ j = 2 ∨ j = 3 ∨ j = 4 ∨ j = 5 ∨ j = 6) with rfl | rfl | rfl | rfl | rfl | rfl | rfl
      · exact ne_of c7 c0 (by rw [x7, x0]; decide)
      · exact ne_of c7 c1 (by rw [x7, x1]; decide)
      · exact ne_of c7 c2 (by rw [x7, x2]; decide)
      · exact ne_of c7 c3 (by rw [x7, x3]; decide)
      · exact ne_of c7 c4 (by rw [x7, x4]; decide)
      · exact ne_of c7 c5 (by rw [x7, x5]; decide)
      · exact ne_of c7 c6 (by rw [x7, x6]; decide)
end Go.Proofs.YtnebohdlndiejaaGreatDoor.Hl
