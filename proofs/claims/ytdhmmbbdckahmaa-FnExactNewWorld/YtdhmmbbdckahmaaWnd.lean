/- New worlds alike; marks on a new world. -/
import Derived.Test.YtdhmmbbdckahmaaWnc
import Derived.Test.YtdhmmbbdckahmaaNgk
namespace Go.Proofs.Ytdhmmbbdckahmaa.Wn
open Go.RowKit Go.Proofs.Ytdhmmbbdckahmaa.Rg Go.Proofs.Ytdhmmbbdckahmaa.Nr Go.Proofs.Ytdhmmbbdckahmaa.Is
open Go.Proofs.Ytdhmmbbdckahmaa.Ng (ImpP SpP OwnQ Apart eqGroup_new markGroup_new heldGroup_new HeldI HeldQ)
open Go.Proofs.Ytdhmmbbdckahmaa.Cl (clV Cd eqC_same)
open Go.Proofs.Ytdhmmbbdckahmaa.Rr (grown_set grown_trans grown_refl grown_alloc)
set_option maxHeartbeats 400000 in
theorem markReply_nil (a : Int) (ad : Option Addr) (cap : Nat) (w : World) : Calls Try.prog 42 #[.slice ad 0 cap, .int .i64 a] w fun e w' => e = .returned (.int .i64 a) ∧ w = w' := by
  go_enter Try.func42, Try.ntmps42
  go_wp2_with fail
  go_loopw [1, 5] (fun k i wr => k = .int .i64 a ∧ i = .int .i64 0 ∧ wr = w) (fun _ _ _ => 0)
  case atStart => exact ⟨rfl, rfl, rfl⟩
  case round =>
    obtain ⟨rfl, rfl, rfl⟩ := hrel
    go_wp2
    go_ret
    exact ⟨rfl, rfl⟩
set_option maxHeartbeats 400000 in
theorem heldReply_nil (a : Int) (ad : Option Addr) (cap : Nat) (w : World) : Calls Try.prog 48 #[.slice ad 0 cap, .int .i64 a] w fun e w' => e = .returned (.int .i64 a) ∧ w = w' := by
  go_enter Try.func48, Try.ntmps48
  go_wp2_with fail
  go_loopw [1, 5] (fun k i wr => k = .int .i64 a ∧ i = .int .i64 0 ∧ wr = w) (fun _ _ _ => 0)
  case atStart => exact ⟨rfl, rfl, rfl⟩
  case round =>
    obtain ⟨rfl, rfl, rfl⟩ := hrel
    go_wp2
    go_ret
    exact ⟨rfl, rfl⟩
set_option maxHeartbeats 400000 in
theorem markAnswer_nil (a : Int) (ad : Option Addr) (cap : Nat) (w : World) : Calls Try.prog 43 #[.slice ad 0 cap, .int .i64 a] w fun e w' => e = .returned (.int .i64 a) ∧ w = w' := by
  go_enter Try.func43, Try.ntmps43
  go_wp2_with fail
  go_loopw [1, 5] (fun k i wr => k = .int .i64 a ∧ i = .int .i64 0 ∧ wr = w) (fun _ _ _ => 0)
  case atStart => exact ⟨rfl, rfl, rfl⟩
  case round =>
    obtain ⟨rfl, rfl, rfl⟩ := hrel
    go_wp2
    go_ret
    exact ⟨rfl, rfl⟩
set_option maxHeartbeats 400000 in
theorem heldAnswer_nil (a : Int) (ad : Option Addr) (cap : Nat) (w : World) : Calls Try.prog 49 #[.slice ad 0 cap, .int .i64 a] w fun e w' => e = .returned (.int .i64 a) ∧ w = w' := by
  go_enter Try.func49, Try.ntmps49
  go_wp2_with fail
  go_loopw [1, 5] (fun k i wr => k = .int .i64 a ∧ i = .int .i64 0 ∧ wr = w) (fun _ _ _ => 0)
  case atStart => exact ⟨rfl, rfl, rfl⟩
  case round =>
    obtain ⟨rfl, rfl, rfl⟩ := hrel
    go_wp2
    go_ret
    exact ⟨rfl, rfl⟩
set_option maxHeartbeats 400000 in
theorem markCallRecord_nil (a : Int) (ad : Option Addr) (cap : Nat) (w : World) : Calls Try.prog 22 #[.slice ad 0 cap, .int .i64 a] w fun e w' => e = .returned (.int .i64 a) ∧ w = w' := by
  go_enter Try.func22, Try.ntmps22
  go_wp2_with fail
  go_loopw [1, 5] (fun k i wr => k = .int .i64 a ∧ i = .int .i64 0 ∧ wr = w) (fun _ _ _ => 0)
  case atStart => exact ⟨rfl, rfl, rfl⟩
  case round =>
    obtain ⟨rfl, rfl, rfl⟩ := hrel
    go_wp2
    go_ret
    exact ⟨rfl, rfl⟩
set_option maxHeartbeats 400000 in
theorem heldCallRecord_nil (a : Int) (ad : Option Addr) (cap : Nat) (w : World) : Calls Try.prog 25 #[.slice ad 0 cap, .int .i64 a] w fun e w' => e = .returned (.int .i64 a) ∧ w = w' := by
  go_enter Try.func25, Try.ntmps25
  go_wp2_with fail
  go_loopw [1, 5] (fun k i wr => k = .int .i64 a ∧ i = .int .i64 0 ∧ wr = w) (fun _ _ _ => 0)
  case atStart => exact ⟨rfl, rfl, rfl⟩
  case round =>
    obtain ⟨rfl, rfl, rfl⟩ := hrel
    go_wp2
    go_ret
    exact ⟨rfl, rfl⟩
set_option maxHeartbeats 400000 in
theorem markClient_nil (a : Int) (ad : Option Addr) (cap : Nat) (w : World) : Calls Try.prog 21 #[.slice ad 0 cap, .int .i64 a] w fun e w' => e = .returned (.int .i64 a) ∧ w = w' := by
  go_enter Try.func21, Try.ntmps21
  go_wp2_with fail
  go_loopw [1, 5] (fun k i wr => k = .int .i64 a ∧ i = .int .i64 0 ∧ wr = w) (fun _ _ _ => 0)
  case atStart => exact ⟨rfl, rfl, rfl⟩
  case round =>
    obtain ⟨rfl, rfl, rfl⟩ := hrel
    go_wp2
    go_ret
    exact ⟨rfl, rfl⟩
set_option maxHeartbeats 400000 in
theorem heldClient_nil (a : Int) (ad : Option Addr) (cap : Nat) (w : World) : Calls Try.prog 24 #[.slice ad 0 cap, .int .i64 a] w fun e w' => e = .returned (.int .i64 a) ∧ w = w' := by
  go_enter Try.func24, Try.ntmps24
  go_wp2_with fail
  go_loopw [1, 5] (fun k i wr => k = .int .i64 a ∧ i = .int .i64 0 ∧ wr = w) (fun _ _ _ => 0)
  case atStart => exact ⟨rfl, rfl, rfl⟩
  case round =>
    obtain ⟨rfl, rfl, rfl⟩ := hrel
    go_wp2
    go_ret
    exact ⟨rfl, rfl⟩
set_option maxHeartbeats 400000 in
theorem eqCalls_nil (a a' : Option Addr) (c c' : Nat) (w : World) : Calls Try.prog 19 #[.slice a 0 c, .slice a' 0 c'] w fun e w' => e = .returned (.bool true) ∧ w = w' := by
  go_enter Try.func19, Try.ntmps19
  go_wp2_with fail
  go_loopw [5] (fun i wr => i = .int .i64 0 ∧ wr = w) (fun _ _ => 0)
  case atStart => exact ⟨rfl, rfl⟩
  case round =>
    obtain ⟨rfl, rfl⟩ := hrel
    go_wp2
    go_ret
    exact ⟨rfl, rfl⟩
theorem eqClient_new (id : Int) (r1 c1 r2 c2 : Option Addr) (w : World) : Calls Try.prog 36 #[.agg #[.int .i64 id, .int .i64 0, .bool false, .int .i64 0, .int .i64 0, .int .i64 0, .int .i64 0, .string ⟨#[]⟩, .slice r1 0 0, .slice c1 0 0], .agg #[.int .i64 id, .int .i64 0, .bool false, .int .i64 0, .int .i64 0, .int .i64 0, .int .i64 0, .string ⟨#[]⟩, .slice r2 0 0, .slice c2 0 0]] w fun e w' => e = .returned (.bool true) ∧ Below w.heap.size w w' :=
  eqC_same ⟨id, 0, false, 0, 0, 0, 0, ⟨#[]⟩, [], []⟩ (.slice r1 0 0) (.slice c1 0 0) (.slice r2 0 0) (.slice c2 0 0) w ⟨⟨_, _, rfl, .inl rfl⟩, ⟨_, _, rfl, .inl rfl⟩⟩ ⟨⟨_, _, rfl, .inl rfl⟩, ⟨_, _, rfl, .inl rfl⟩⟩ ⟨Nat.zero_le _, Nat.zero_le _⟩
set_option maxRecDepth 100000 in
set_option maxHeartbeats 3200000 in
theorem eqClients_new (v u0 : Value) (cs ds : List CV) (B B' : Nat) (w : World) (h : OwnD w B v cs) (g : OwnD w B' u0 ds) (hp : NewD cs) (hq : NewD ds) (hlen : ds.length = cs.length) (hl : cs.length ≤ 1048576) :
    Calls Try.prog 18 #[v, u0] w fun e w' => e = .returned (.bool true) ∧ Below w.heap.size w w' := by
  have HR : Hid (OwnD w B v cs) := h
  have HG : Hid (OwnD w B' u0 ds) := g
  have HP : Hid (NewD cs) := hp
  have HQ : Hid (NewD ds) := hq
  have HLN : Hid (ds.length = cs.length) := hlen
  obtain ⟨a, cap, rfl⟩ := OwnD.slice h
  obtain ⟨a', cap', rfl⟩ := OwnD.slice g
  rw [hlen]
  clear h g hp hq hlen
  have hne : ((cs.length : Int) != (cs.length : Int)) = false := by simp
  go_enter Try.func18, Try.ntmps18
  go_wp2_with fail
  go_loopw [5] (fun i wr => ∃ k : Nat, k ≤ cs.length ∧ i = .int .i64 k ∧ Hid (Below w.heap.size w wr)) (fun i _ => cs.length - (intOf i).toNat)
  case atStart => exact ⟨0, by omega, rfl, Below.refl _ _⟩
  case round =>
    obtain ⟨k, hk, rfl, HB⟩ := hrel
    by_cases hlt : k < cs.length
    · obtain ⟨p, hx⟩ := Rg.get_at hlt
      obtain ⟨q, hy⟩ := Rg.get_at (xs := ds) (k := k) (by rw [HLN.out]; exact hlt)
      obtain ⟨b, cp, cur, he, _, _, hg, hcl⟩ := (HR.out.below HB.out).at hx
      obtain ⟨b', cp', cur', he', _, _, hg', hcl'⟩ := (HG.out.below HB.out).at hy
      have e1 := HP.out k p hx
      have e2 := HQ.out k q hy
      obtain ⟨pi, pr, pc⟩ := p
      obtain ⟨qi, qr, qc⟩ := q
      simp only at e1 e2
      obtain rfl : pi = qi := e1.trans e2.symm
      obtain rfl : a = some ⟨b, 0, none⟩ := by injection he
      obtain rfl : a' = some ⟨b', 0, none⟩ := by injection he'
      have c0 := (blk_cell hg (k * 10) (hcl 0 _ (by decide) rfl)).1
      have c1 := (blk_cell hg (k * 10 + 1) (hcl 1 _ (by decide) rfl)).1
      have c2 := (blk_cell hg (k * 10 + 2) (hcl 2 _ (by decide) rfl)).1
      have c3 := (blk_cell hg (k * 10 + 3) (hcl 3 _ (by decide) rfl)).1
      have c4 := (blk_cell hg (k * 10 + 4) (hcl 4 _ (by decide) rfl)).1
      have c5 := (blk_cell hg (k * 10 + 5) (hcl 5 _ (by decide) rfl)).1
      have c6 := (blk_cell hg (k * 10 + 6) (hcl 6 _ (by decide) rfl)).1
      have c7 := (blk_cell hg (k * 10 + 7) (hcl 7 _ (by decide) rfl)).1
      have c8 := (blk_cell hg (k * 10 + 8) (hcl 8 _ (by decide) rfl)).1
      have c9 := (blk_cell hg (k * 10 + 9) (hcl 9 _ (by decide) rfl)).1
      have d0 := (blk_cell hg' (k * 10) (hcl' 0 _ (by decide) rfl)).1
      have d1 := (blk_cell hg' (k * 10 + 1) (hcl' 1 _ (by decide) rfl)).1
      have d2 := (blk_cell hg' (k * 10 + 2) (hcl' 2 _ (by decide) rfl)).1
      have d3 := (blk_cell hg' (k * 10 + 3) (hcl' 3 _ (by decide) rfl)).1
      have d4 := (blk_cell hg' (k * 10 + 4) (hcl' 4 _ (by decide) rfl)).1
      have d5 := (blk_cell hg' (k * 10 + 5) (hcl' 5 _ (by decide) rfl)).1
      have d6 := (blk_cell hg' (k * 10 + 6) (hcl' 6 _ (by decide) rfl)).1
      have d7 := (blk_cell hg' (k * 10 + 7) (hcl' 7 _ (by decide) rfl)).1
      have d8 := (blk_cell hg' (k * 10 + 8) (hcl' 8 _ (by decide) rfl)).1
      have d9 := (blk_cell hg' (k * 10 + 9) (hcl' 9 _ (by decide) rfl)).1
      have HE : Hid (∀ W, Calls Try.prog 36 #[.agg #[.int .i64 pi, .int .i64 0, .bool false, .int .i64 0, .int .i64 0, .int .i64 0, .int .i64 0, .string ⟨#[]⟩, .slice pr 0 0, .slice pc 0 0], .agg #[.int .i64 pi, .int .i64 0, .bool false, .int .i64 0, .int .i64 0, .int .i64 0, .int .i64 0, .string ⟨#[]⟩, .slice qr 0 0, .slice qc 0 0]] W fun e w' => e = .returned (.bool true) ∧ Below W.heap.size W w') := fun W => eqClient_new pi pr pc qr qc W
      have hp0 : (0 : Int) ≤ (k : Int) := by omega
      have hp1 : (k : Int) < (cs.length : Int) := by omega
      clear e1 e2 he he' hg hg' hcl hcl' hx hy
      go_upto_region 6 with fail
      obtain ⟨X, hX, W, QI0, QO0⟩ := Qc.klass wr
      have QI : Hid (∀ w', Below wr.heap.size wr w' → ∃ x, w' = W x) := QI0
      have QO : Hid (∀ x, Below wr.heap.size wr (W x)) := QO0
      clear QI0 QO0
      have y0 := Qc.cell_all QO.out c0
      have z0 := Qc.cell_all QO.out d0
      have y1 := Qc.cell_all QO.out c1
      have z1 := Qc.cell_all QO.out d1
      have y2 := Qc.cell_all QO.out c2
      have z2 := Qc.cell_all QO.out d2
      have y3 := Qc.cell_all QO.out c3
      have z3 := Qc.cell_all QO.out d3
      have y4 := Qc.cell_all QO.out c4
      have z4 := Qc.cell_all QO.out d4
      have y5 := Qc.cell_all QO.out c5
      have z5 := Qc.cell_all QO.out d5
      have y6 := Qc.cell_all QO.out c6
      have z6 := Qc.cell_all QO.out d6
      have y7 := Qc.cell_all QO.out c7
      have z7 := Qc.cell_all QO.out d7
      have y8 := Qc.cell_all QO.out c8
      have z8 := Qc.cell_all QO.out d8
      have y9 := Qc.cell_all QO.out c9
      have z9 := Qc.cell_all QO.out d9
      refine Qc.region_class (W := W) (by kernel_rfl) (by kernel_rfl) (QI.out _ Qc.from_drew) ?_
      repeat (go_big_quiet_step (first | (go_at_call 36; refine (HE.out _).mono ?_; rintro e w2 ⟨rfl, b2⟩; exact ⟨rfl, Qc.back QI.out QO.out b2⟩)))
      refine wpQuiet_nil ?_
      rintro _ ⟨xq, rfl⟩
      have G2 : Hid (Below w.heap.size w (W xq)) := HB.out.trans ((QO.out xq).mono HB.out.size)
      generalize W xq = wq at G2 ⊢
      go_wp2_with fail
      exact ⟨⟨k + 1, by omega, by go_num, G2⟩, by simp [intOf]; omega⟩
    · go_wp2_with fail
      go_ret
      exact ⟨rfl, HB.out⟩
set_option maxRecDepth 100000 in
set_option maxHeartbeats 3200000 in
theorem eqWorld_new (n : Int) (xs : List Int) (vf vr uf ur vc uc : Value) (g3 g4 g6 : Option Addr) (ps qs : List Ng.RV) (cs ds : List CV) (B B' : Nat) (w : World) (hf : RowI w vf xs) (hu : RowI w uf xs) (h : OwnQ w B vr ps) (g : OwnQ w B' ur qs) (hp : ImpP B w n ps) (hq : SpP B' w n qs) (hlen : qs.length = ps.length) (hl : ps.length ≤ 1048576) (hx : xs.length ≤ 1048576) (hc : OwnD w B vc cs) (hd : OwnD w B' uc ds) (hcl : ds.length = cs.length) (hc3 : cs.length ≤ 1048576) (hn : NewD cs) (hm : NewD ds) :
    Calls Try.prog 7 #[.agg #[.int .i64 n, vf, vr, .slice none 0 0, .slice none 0 0, vc, .slice none 0 0, .int .i64 0], .agg #[.int .i64 n, uf, ur, .slice g3 0 0, .slice g4 0 0, uc, .slice g6 0 0, .int .i64 0]] w fun e w' => e = .returned (.bool true) ∧ Below w.heap.size w w' := by
  have HX : Hid (∀ W, Below ((w.alloc (.cells #[.int .i64 n, vf, vr, .slice none 0 0, .slice none 0 0, vc, .slice none 0 0, .int .i64 0] 31)).alloc (.cells #[.int .i64 n, uf, ur, .slice g3 0 0, .slice g4 0 0, uc, .slice g6 0 0, .int .i64 0] 31)).heap.size ((w.alloc (.cells #[.int .i64 n, vf, vr, .slice none 0 0, .slice none 0 0, vc, .slice none 0 0, .int .i64 0] 31)).alloc (.cells #[.int .i64 n, uf, ur, .slice g3 0 0, .slice g4 0 0, uc, .slice g6 0 0, .int .i64 0] 31)) W → W.heap[w.heap.size]? = some (.cells #[.int .i64 n, vf, vr, .slice none 0 0, .slice none 0 0, vc, .slice none 0 0, .int .i64 0] 31 (0, 0)) ∧ W.heap[w.heap.size + 1]? = some (.cells #[.int .i64 n, uf, ur, .slice g3 0 0, .slice g4 0 0, uc, .slice g6 0 0, .int .i64 0] 31 (0, 0)) ∧ Below w.heap.size w W) := fun W hW => Ng.two hW
  have HE : Hid (∀ W, Below w.heap.size w W → Calls Try.prog 17 #[.agg #[.int .i64 n, vf, vr, .slice none 0 0, .slice none 0 0], .agg #[.int .i64 n, uf, ur, .slice g3 0 0, .slice g4 0 0]] W fun e w' => e = .returned (.bool true) ∧ Below W.heap.size W w') := fun W hW => eqGroup_new n xs vf vr uf ur g3 g4 ps qs B B' W (hf.below hW) (hu.below hW) (h.below hW) (g.below hW) (hp.below hW) (fun k p hk => (hq k p hk).below hW) hlen hl hx
  have HK : Hid (∀ W, Below w.heap.size w W → Calls Try.prog 18 #[vc, uc] W fun e w' => e = .returned (.bool true) ∧ Below W.heap.size W w') := fun W hW => eqClients_new vc uc cs ds B B' W (hc.below hW) (hd.below hW) hn hm hcl hc3
  clear hf hu h g hp hq hc hd hn hm
  have z0 : ((0 : Int) != 0) = false := by decide
  go_enter Try.func7, Try.ntmps7
  go_upto_region 1 with fail
  generalize ((w.alloc (.cells #[.int .i64 n, vf, vr, .slice none 0 0, .slice none 0 0, vc, .slice none 0 0, .int .i64 0] 31)).alloc (.cells #[.int .i64 n, uf, ur, .slice g3 0 0, .slice g4 0 0, uc, .slice g6 0 0, .int .i64 0] 31)) = wb at HX ⊢
  obtain ⟨x1, x2, x3⟩ := HX.out wb (Below.refl _ _)
  have H1 := HE.out wb x3
  have c0 := (blk_cell x1 0 (x := .int .i64 n) rfl).1
  have c1 := (blk_cell x1 1 (x := vf) rfl).1
  have c2 := (blk_cell x1 2 (x := vr) rfl).1
  have c3 := (blk_cell x1 3 (x := .slice none 0 0) rfl).1
  have c4 := (blk_cell x1 4 (x := .slice none 0 0) rfl).1
  have c5 := (blk_cell x1 5 (x := vc) rfl).1
  have c6 := (blk_cell x1 6 (x := .slice none 0 0) rfl).1
  have c7 := (blk_cell x1 7 (x := .int .i64 0) rfl).1
  have d0 := (blk_cell x2 0 (x := .int .i64 n) rfl).1
  have d1 := (blk_cell x2 1 (x := uf) rfl).1
  have d2 := (blk_cell x2 2 (x := ur) rfl).1
  have d3 := (blk_cell x2 3 (x := .slice g3 0 0) rfl).1
  have d4 := (blk_cell x2 4 (x := .slice g4 0 0) rfl).1
  have d5 := (blk_cell x2 5 (x := uc) rfl).1
  have d6 := (blk_cell x2 6 (x := .slice g6 0 0) rfl).1
  have d7 := (blk_cell x2 7 (x := .int .i64 0) rfl).1
  clear x1 x2 x3
  go_upto_region 3 with (go_at_call 17; refine H1.mono ?_; rintro e w1 ⟨rfl, b1⟩)
  have B1 : Hid (Below wb.heap.size wb w1) := b1
  clear b1 H1 c0 c1 c2 c3 c4 c5 c6 c7 d0 d1 d2 d3 d4 d5 d6 d7
  obtain ⟨x1, x2, x3⟩ := HX.out w1 B1.out
  have H2 := HK.out w1 x3
  have c0 := (blk_cell x1 0 (x := .int .i64 n) rfl).1
  have c1 := (blk_cell x1 1 (x := vf) rfl).1
  have c2 := (blk_cell x1 2 (x := vr) rfl).1
  have c3 := (blk_cell x1 3 (x := .slice none 0 0) rfl).1
  have c4 := (blk_cell x1 4 (x := .slice none 0 0) rfl).1
  have c5 := (blk_cell x1 5 (x := vc) rfl).1
  have c6 := (blk_cell x1 6 (x := .slice none 0 0) rfl).1
  have c7 := (blk_cell x1 7 (x := .int .i64 0) rfl).1
  have d0 := (blk_cell x2 0 (x := .int .i64 n) rfl).1
  have d1 := (blk_cell x2 1 (x := uf) rfl).1
  have d2 := (blk_cell x2 2 (x := ur) rfl).1
  have d3 := (blk_cell x2 3 (x := .slice g3 0 0) rfl).1
  have d4 := (blk_cell x2 4 (x := .slice g4 0 0) rfl).1
  have d5 := (blk_cell x2 5 (x := uc) rfl).1
  have d6 := (blk_cell x2 6 (x := .slice g6 0 0) rfl).1
  have d7 := (blk_cell x2 7 (x := .int .i64 0) rfl).1
  clear x1 x2 x3
  go_upto_region 5 with (go_at_call 18; refine H2.mono ?_; rintro e w2 ⟨rfl, b2⟩)
  have B2 : Hid (Below wb.heap.size wb w2) := B1.out.trans (b2.mono B1.out.size)
  clear b2 H2 c0 c1 c2 c3 c4 c5 c6 c7 d0 d1 d2 d3 d4 d5 d6 d7
  obtain ⟨x1, x2, x3⟩ := HX.out w2 B2.out
  have B3 : Hid (Below w.heap.size w w2) := x3
  have c0 := (blk_cell x1 0 (x := .int .i64 n) rfl).1
  have c1 := (blk_cell x1 1 (x := vf) rfl).1
  have c2 := (blk_cell x1 2 (x := vr) rfl).1
  have c3 := (blk_cell x1 3 (x := .slice none 0 0) rfl).1
  have c4 := (blk_cell x1 4 (x := .slice none 0 0) rfl).1
  have c5 := (blk_cell x1 5 (x := vc) rfl).1
  have c6 := (blk_cell x1 6 (x := .slice none 0 0) rfl).1
  have c7 := (blk_cell x1 7 (x := .int .i64 0) rfl).1
  have d0 := (blk_cell x2 0 (x := .int .i64 n) rfl).1
  have d1 := (blk_cell x2 1 (x := uf) rfl).1
  have d2 := (blk_cell x2 2 (x := ur) rfl).1
  have d3 := (blk_cell x2 3 (x := .slice g3 0 0) rfl).1
  have d4 := (blk_cell x2 4 (x := .slice g4 0 0) rfl).1
  have d5 := (blk_cell x2 5 (x := uc) rfl).1
  have d6 := (blk_cell x2 6 (x := .slice g6 0 0) rfl).1
  have d7 := (blk_cell x2 7 (x := .int .i64 0) rfl).1
  clear x1 x2 x3
  go_wp2_with (go_at_call 19; refine (eqCalls_nil _ _ _ _ _).mono ?_; rintro e w3 ⟨rfl, rfl⟩)
  go_ret
  exact ⟨rfl, B3.out⟩
end Go.Proofs.Ytdhmmbbdckahmaa.Wn
