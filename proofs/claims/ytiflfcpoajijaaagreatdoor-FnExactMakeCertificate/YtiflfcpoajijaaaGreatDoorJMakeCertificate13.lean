/- impl.signBits. -/
import Derived.Test.YtiflfcpoajijaaaGreatDoorJMakeCertificate12
import Derived.Deep.RegionLaw
namespace Go.Proofs.YtiflfcpoajijaaaGreatDoor.Sg
open Go.RowKit Go.Proofs.YtiflfcpoajijaaaGreatDoor.Sl Go.Proofs.YtiflfcpoajijaaaGreatDoor.By Go.Proofs.YtiflfcpoajijaaaGreatDoor.Ap Go.Proofs.YtiflfcpoajijaaaGreatDoor.Tx Go.Proofs.YtiflfcpoajijaaaGreatDoor.Sh Go.Proofs.YtiflfcpoajijaaaGreatDoor.Ho Go.Proofs.YtiflfcpoajijaaaGreatDoor.Se Go.Proofs.YtiflfcpoajijaaaGreatDoor.Ka Go.Proofs.YtiflfcpoajijaaaGreatDoor.Sx Go.Proofs.YtiflfcpoajijaaaGreatDoor.Hf Go.Proofs.YtiflfcpoajijaaaGreatDoor.Sa Go.Proofs.YtiflfcpoajijaaaGreatDoor.Kx Go.Proofs.YtiflfcpoajijaaaGreatDoor.Lv Go.Proofs.YtiflfcpoajijaaaGreatDoor.Cr Go.Proofs.YtiflfcpoajijaaaGreatDoor.Pa Go.Proofs.YtiflfcpoajijaaaGreatDoor.Mb

/-- The world in which the result's block is laid. -/
def w0 (w : World) : World := w.alloc (.cells #[.int .i64 0, .slice none 0 0, .slice none 0 0, .slice none 0 0] 37)
theorem w0_size (w : World) : (w0 w).heap.size = w.heap.size + 1 := size_new _ _
theorem w0_bel (w : World) : Below w.heap.size w (w0 w) := bel_new _ _
theorem pathS (u : Value) : Away u (.slice none 0 0) := fun _ _ h => by cases h
theorem nilA (u : Value) : Away (.slice none 0 0) u := fun _ h => by cases h
/-- A list was appended to, and the signature's own list may be stored: where it lies. -/
theorem SigAt.kpA {w w' : World} {B p : Nat} {i : Int} {va vb vc va' : Value} {ta tb tc : List ByteArray} (h : SigAt w B p i va vb vc ta tb tc) (hk : Kp w w' va va') : w'.cell? ⟨p, 1, none⟩ = some va ∧ w'.frozen? ⟨p, 1, none⟩ = false :=
  blk_cell ((hk.block p h.lt (fun e => h.pa p e.symm rfl)).trans h.blk) 1 rfl
theorem SigAt.kpB {w w' : World} {B p : Nat} {i : Int} {va vb vc vb' : Value} {ta tb tc : List ByteArray} (h : SigAt w B p i va vb vc ta tb tc) (hk : Kp w w' vb vb') : w'.cell? ⟨p, 2, none⟩ = some vb ∧ w'.frozen? ⟨p, 2, none⟩ = false :=
  blk_cell ((hk.block p h.lt (fun e => h.pb p e.symm rfl)).trans h.blk) 2 rfl
theorem SigAt.kpC {w w' : World} {B p : Nat} {i : Int} {va vb vc vc' : Value} {ta tb tc : List ByteArray} (h : SigAt w B p i va vb vc ta tb tc) (hk : Kp w w' vc vc') : w'.cell? ⟨p, 3, none⟩ = some vc ∧ w'.frozen? ⟨p, 3, none⟩ = false :=
  blk_cell ((hk.block p h.lt (fun e => h.pc p e.symm rfl)).trans h.blk) 3 rfl
theorem bel_setp {w0 w w' : World} {B p j : Nat} {v v' x : Value} {zs : List ByteArray} (hb : Below B w0 w) (hB : B ≤ w.heap.size) (ho : OwnS w B v zs) (hk : Kp w w' v v') (hp : B ≤ p) : Below B w0 (w'.setCell ⟨p, j, none⟩ x) :=
  Below.setCell (hb.trans (OwnS.kp hk ho hB)) (p := ⟨p, j, none⟩) hp x

set_option maxRecDepth 100000 in
set_option maxHeartbeats 1600000 in
theorem signBits_any (seed msg : ByteArray) (i : Nat) (w : World) (hs : seed.size ≤ 60000) (hi : i < 8) (hK : KTab w) (hp : 0 < w.heap.size) :
    Calls Tryz.prog 61 #[.string seed, .int .i64 i, .string (mbits msg)] w fun e w' => ∃ va vb vc, e = .returned (.agg #[.int .i64 i, va, vb, vc]) ∧ SigV w' w.heap.size va vb vc (onesTo seed i (dig msg) 32) (restTo seed i (dig msg) 32) (pathN 3 (keysTo seed 8) i) ∧ Below w.heap.size w w' := by
  obtain ⟨i0, hi0, hz0, hz1, hz2⟩ := info_parts info9
  obtain ⟨bs, HBS⟩ : ∃ bs, Hid (bs = mbits msg) := ⟨_, rfl⟩
  rw [← HBS.out]
  have GK : Hid (KTab w) := hK
  have HS : Hid (∀ _ : Unit, seed.size ≤ 60000 ∧ i < 8) := fun _ => ⟨hs, hi⟩
  have H0 : Hid (Below w.heap.size w (w0 w) ∧ KTab (w0 w) ∧ 0 < (w0 w).heap.size ∧ (w0 w).heap.size = w.heap.size + 1) := ⟨w0_bel w, hK.below (w0_bel w) hp, by rw [w0_size]; omega, w0_size w⟩
  clear hK hs hi
  go_enter Tryz.func61, Tryz.ntmps61
  go_wp2_with fail
  refine (keysOf_any seed (w0 w) (HS.out ()).1 H0.out.2.1 H0.out.2.2.1).mono ?_
  rintro e w1 ⟨v1, rfl, o1, b1⟩
  have O1 : Hid (OwnS w1 (w0 w).heap.size v1 (keysTo seed 8)) := o1
  have B1 : Hid (Below (w0 w).heap.size (w0 w) w1) := b1
  clear o1 b1
  go_wp2_with fail
  refine (pathOf_any v1 (keysTo seed 8) i w1 (keys32 seed (HS.out ()).1) O1.out.row (HS.out ()).2 (H0.out.2.1.below B1.out H0.out.2.2.1) (Nat.lt_of_lt_of_le H0.out.2.2.1 B1.out.size)).mono ?_
  rintro e w2 ⟨vc, rfl, o2, b2⟩
  obtain ⟨ac, cc, hvc, _⟩ := o2.row
  rw [pathN_length] at hvc
  subst hvc
  have B2 : Hid (Below (w.heap.size + 1) (w0 w) w2 ∧ w.heap.size + 1 ≤ w2.heap.size) := by
    have h1 := B1.out.trans (b2.mono B1.out.size)
    have h2 := h1.size
    rw [H0.out.2.2.2] at h1 h2
    exact ⟨h1, h2⟩
  have O2 : Hid (OwnS w2 (w.heap.size + 1) (.slice ac 3 cc) (pathN 3 (keysTo seed 8) i)) := OwnS.mono o2 (by have := B1.out.size; rw [H0.out.2.2.2] at this; omega)
  have SA : Hid (SigAt (w2.alloc (.cells #[.int .i64 (i : Int), .slice none 0 0, .slice none 0 0, .slice ac 3 cc] 37)) (w.heap.size + 1) w2.heap.size i (.slice none 0 0) (.slice none 0 0) (.slice ac 3 cc) (onesTo seed i (dig msg) 0) (restTo seed i (dig msg) 0) (pathN 3 (keysTo seed 8) i)) :=
    ⟨blk_new _ _ _, B2.out.2, OwnS.nil _ _, OwnS.nil _ _, OwnS.below O2.out (bel_new _ _), nilA _, nilA _, nilA _, (fun _ h => by cases h), (fun _ h => by cases h), (fun k h => by have := (OwnS.lt' O2.out k h).2; omega)⟩
  have SB : Hid (Below (w.heap.size + 1) (w0 w) (w2.alloc (.cells #[.int .i64 (i : Int), .slice none 0 0, .slice none 0 0, .slice ac 3 cc] 37))) := B2.out.1.alloc B2.out.2 _
  clear o2 b2 O1 B1
  go_wp2_with fail
  generalize w2.heap.size = p at SA
  go_loopw [16] (fun j wr => ∃ (k : Nat) (va vb : Value), k ≤ 32 ∧ j = .int .i64 k ∧ SigAt wr (w.heap.size + 1) p i va vb (.slice ac 3 cc) (onesTo seed i (dig msg) k) (restTo seed i (dig msg) k) (pathN 3 (keysTo seed 8) i) ∧ Below (w.heap.size + 1) (w0 w) wr) (fun j _ => 32 - (intOf j).toNat)
  case atStart => exact ⟨0, _, _, by omega, rfl, SA.out, SB.out⟩
  case round =>
    clear SA SB B2 O2
    obtain ⟨k, va, vb, hk, rfl, hS, hb⟩ := hrel
    by_cases hlt : k < 32
    · have hlt' : decide ((k : Int) < 32) = true := by rw [decide_eq_true_eq]; omega
      have HN : Hid (bn (dig msg) k ≤ 1) := by show _ ≤ _; rcases (bn_two (dig msg) k).1 with e | e <;> omega
      have HEa : Hid (onesTo seed i (dig msg) (k + 1) = onesTo seed i (dig msg) k ++ [sec seed i k (bn (dig msg) k)]) := rfl
      have HEb : Hid (restTo seed i (dig msg) (k + 1) = restTo seed i (dig msg) k ++ [hashS (bys (sec seed i k (1 - bn (dig msg) k)))]) := rfl
      have HLa : Hid ((onesTo seed i (dig msg) k).length + 1 ≤ 1000000000) := by show _ ≤ _; rw [onesTo_length]; omega
      have HLb : Hid ((restTo seed i (dig msg) k).length + 1 ≤ 1000000000) := by show _ ≤ _; rw [restTo_length]; omega
      go_wp2_with fail
      refine (bitAt_any msg bs k wr HBS.out hlt).mono ?_
      rintro e w3 ⟨rfl, rfl⟩
      generalize bn (dig msg) k = b at HN HEa HEb
      obtain ⟨b', hb'⟩ : ∃ b' : Nat, b' = 1 - b := ⟨_, rfl⟩
      rw [← hb'] at HEb
      have hsub : (1 : Int) - (b : Int) = (b' : Int) := by have := HN.out; omega
      have HNb : Hid (b' ≤ 1) := by show _ ≤ _; omega
      have hwr : IntKind.i64.wrap (b' : Int) = (b' : Int) := by rw [IntKind.wrap_i64]; omega
      clear hb'
      obtain ⟨c1, _⟩ := blk_cell hS.blk 1 (x := va) rfl
      have hbs : w.heap.size + 1 ≤ wr.heap.size := by have := hS.lt; have := hS.base; omega
      have KD : Hid (KTab wr.drew ∧ 0 < wr.drew.heap.size) := ⟨H0.out.2.1.below hb.drew (by omega), Nat.lt_of_lt_of_le (show 0 < w.heap.size + 1 by omega) hbs⟩
      have HX : Hid (∀ W, KTab W → 0 < W.heap.size → Calls Tryz.prog 95 #[.string seed, .int .i64 i, .int .i64 k, .int .i64 b] W fun e w' => e = .returned (.string (sec seed i k b)) ∧ Below W.heap.size W w') := fun W h1 h2 => secretOf_any seed i k b W (HS.out ()).1 (by have := (HS.out ()).2; omega) (by omega) (by have := HN.out; omega) h1 h2
      have HY : Hid (∀ W, KTab W → 0 < W.heap.size → Calls Tryz.prog 95 #[.string seed, .int .i64 i, .int .i64 k, .int .i64 b'] W fun e w' => e = .returned (.string (sec seed i k b')) ∧ Below W.heap.size W w') := fun W h1 h2 => secretOf_any seed i k b' W (HS.out ()).1 (by have := (HS.out ()).2; omega) (by omega) (by have := HNb.out; omega) h1 h2
      have HC : Hid (cat [sec seed i k b'] = bys (sec seed i k b') ∧ (bys (sec seed i k b')).length ≤ 1000000000) := ⟨by unfold cat; simp only [List.flatMap_cons, List.flatMap_nil, List.append_nil], by rw [bys_length, sec_size seed i k b' (HS.out ()).1]; decide⟩
      generalize sec seed i k b = z1 at HEa HX
      generalize sec seed i k b' = z2 at HEb HY HC
      go_wp2_with fail
      go_region_law (first
        | (go_simp; go_at_call 95; refine (HX.out _ KD.out.1 KD.out.2).mono ?_; rintro e w3 ⟨rfl, b3⟩; have S3 := hS.drew.below b3; have g3 := hb.drew.trans (b3.mono hbs); have y1 := (blk_cell S3.blk 1 (x := va) rfl).1; have y3 : ∀ o, (w3.alloc o).cell? ⟨p, 1, none⟩ = some va := fun o => (blk_cell (S3.below (bel_new w3 o)).blk 1 (x := va) rfl).1; clear b3; try go_simp)
        | (refine step_txtK (by rfl) _ _ 35 (by rfl) Tryz.underlying35 hi0 hz0 hz1 hz2 (w.heap.size + 1) _ _ _ _ [z1] (by rfl) (by rfl) (OwnS.below S3.oa (bel_new _ _)) (by rw [size_new]; have := S3.lt; have := S3.base; omega) (row_lit w3 9 [z1] _ 1 rfl rfl) HLa.out ?_; intro v5 w5 o5 k5; have k6 := (Kp.of_below va (bel_new w3 _)).trans k5; obtain ⟨x1, x2⟩ := S3.kpA k6; obtain ⟨a5, cp5, e5, _⟩ := o5.row; rw [List.length_append, onesTo_length] at e5; change v5 = .slice a5 (k + 1) cp5 at e5; subst e5))
      all_goals
        have S6 := S3.setA k6 o5
        have g6 := bel_setp (j := 1) (x := .slice a5 (k + 1) cp5) g3 (by have := S3.lt; have := S3.base; omega) S3.oa k6 S3.base
        generalize w5.setCell ⟨p, 1, none⟩ (.slice a5 (k + 1) cp5) = w6 at S6 g6 ⊢
        generalize (Value.slice a5 (k + 1) cp5) = va6 at S6 ⊢
        rw [← HEa.out] at S6
        clear HX x1 x2 k5 k6 o5 S3 g3 hS hb c1 hbs KD
        clear y1 y3
        obtain ⟨c1, _⟩ := blk_cell S6.blk 2 (x := vb) rfl
        have hbs : w.heap.size + 1 ≤ w6.heap.size := by have := S6.lt; have := S6.base; omega
        have KD : Hid (KTab w6.drew ∧ 0 < w6.drew.heap.size) := ⟨H0.out.2.1.below g6.drew (by omega), Nat.lt_of_lt_of_le (show 0 < w.heap.size + 1 by omega) hbs⟩
        go_wp2_with fail
        go_region_law (first
          | (go_simp; go_at_call 95; refine (HY.out _ KD.out.1 KD.out.2).mono ?_; rintro e w3 ⟨rfl, b3⟩; have S3 := S6.drew.below b3; have g3 := g6.drew.trans (b3.mono hbs); have y1 := (blk_cell S3.blk 2 (x := vb) rfl).1; have y3 : ∀ o, (w3.alloc o).cell? ⟨p, 2, none⟩ = some vb := fun o => (blk_cell (S3.below (bel_new w3 o)).blk 2 (x := vb) rfl).1; clear b3; try go_simp)
          | (go_simp; go_at_call 33; refine (hashOf_lit w3 _ 1 rfl _ [z2] rfl rfl (by decide) (by decide) (by rw [HC.out.1]; exact HC.out.2) (H0.out.2.1.below g3 (by omega)) (Nat.lt_of_lt_of_le (show 0 < w.heap.size + 1 by omega) (by have := S3.lt; have := S3.base; omega))).mono ?_; rintro e w4 ⟨rfl, b4⟩; rw [HC.out.1]; have S4 := S3.below b4; have g4 := g3.trans (b4.mono (by have := S3.lt; have := S3.base; omega)); have y2 := (blk_cell S4.blk 2 (x := vb) rfl).1; have y4 : ∀ o, (w4.alloc o).cell? ⟨p, 2, none⟩ = some vb := fun o => (blk_cell (S4.below (bel_new w4 o)).blk 2 (x := vb) rfl).1; clear b4; try go_simp)
          | (refine step_txtK (by rfl) _ _ 35 (by rfl) Tryz.underlying35 hi0 hz0 hz1 hz2 (w.heap.size + 1) _ _ _ _ [hashS (bys z2)] (by rfl) (by rfl) (OwnS.below S4.ob (bel_new _ _)) (by rw [size_new]; have := S4.lt; have := S4.base; omega) (row_lit w4 9 [hashS (bys z2)] _ 1 rfl rfl) HLb.out ?_; intro v7 w7 o7 k7; have k8 := (Kp.of_below vb (bel_new w4 _)).trans k7; obtain ⟨x1, x2⟩ := S4.kpB k8; obtain ⟨a7, cp7, e7, _⟩ := o7.row; rw [List.length_append, restTo_length] at e7; change v7 = .slice a7 (k + 1) cp7 at e7; subst e7))
        all_goals
          have S8 := S4.setB k8 o7
          have g8 := bel_setp (j := 2) (x := .slice a7 (k + 1) cp7) g4 (by have := S4.lt; have := S4.base; omega) S4.ob k8 S4.base
          generalize w7.setCell ⟨p, 2, none⟩ (.slice a7 (k + 1) cp7) = w8 at S8 g8 ⊢
          generalize (Value.slice a7 (k + 1) cp7) = vb8 at S8 ⊢
          rw [← HEb.out] at S8
          go_wp2_with fail
          exact ⟨⟨k + 1, va6, vb8, by omega, by go_num, S8, g8⟩, by simp [intOf]; omega⟩
    · obtain rfl : k = 32 := by omega
      obtain ⟨a1, c1, e1, _⟩ := hS.oa.row
      rw [onesTo_length] at e1
      subst e1
      obtain ⟨a2, c2, e2, _⟩ := hS.ob.row
      rw [restTo_length] at e2
      subst e2
      obtain ⟨r0, _⟩ := blk_cell hS.blk 0 (x := .int .i64 (i : Int)) rfl
      obtain ⟨r1, _⟩ := blk_cell hS.blk 1 (x := .slice a1 32 c1) rfl
      obtain ⟨r2, _⟩ := blk_cell hS.blk 2 (x := .slice a2 32 c2) rfl
      obtain ⟨r3, _⟩ := blk_cell hS.blk 3 (x := .slice ac 3 cc) rfl
      have A6 : wr.heap[w.heap.size]? = some (.cells #[.int .i64 0, .slice none 0 0, .slice none 0 0, .slice none 0 0] 37 (0, 0)) := (hb.block w.heap.size (by omega)).trans (blk_new _ _ _)
      have G6 : Below w.heap.size w wr := (w0_bel w).trans (hb.mono (by omega))
      obtain ⟨zc0, zf0⟩ := blk_cell A6 0 (x := .int .i64 0) rfl
      obtain ⟨zc1, zf1⟩ := blk_cell A6 1 (x := .slice none 0 0) rfl
      obtain ⟨zc2, zf2⟩ := blk_cell A6 2 (x := .slice none 0 0) rfl
      obtain ⟨zc3, zf3⟩ := blk_cell A6 3 (x := .slice none 0 0) rfl
      have AF : ((((wr.setCell ⟨w.heap.size, 0, none⟩ (.int .i64 (i : Int))).setCell ⟨w.heap.size, 1, none⟩ (.slice a1 32 c1)).setCell ⟨w.heap.size, 2, none⟩ (.slice a2 32 c2)).setCell ⟨w.heap.size, 3, none⟩ (.slice ac 3 cc)).heap[w.heap.size]? = some (.cells #[.int .i64 (i : Int), .slice a1 32 c1, .slice a2 32 c2, .slice ac 3 cc] 37 (0, 0)) := (blk_set (blk_set (blk_set (blk_set A6 0 (.int .i64 (i : Int))) 1 (.slice a1 32 c1)) 2 (.slice a2 32 c2)) 3 (.slice ac 3 cc))
      have GF : Below w.heap.size w ((((wr.setCell ⟨w.heap.size, 0, none⟩ (.int .i64 (i : Int))).setCell ⟨w.heap.size, 1, none⟩ (.slice a1 32 c1)).setCell ⟨w.heap.size, 2, none⟩ (.slice a2 32 c2)).setCell ⟨w.heap.size, 3, none⟩ (.slice ac 3 cc)) := (Below.setCell (Below.setCell (Below.setCell (Below.setCell G6 (p := ⟨w.heap.size, 0, none⟩) (Nat.le_refl _) (.int .i64 (i : Int))) (p := ⟨w.heap.size, 1, none⟩) (Nat.le_refl _) (.slice a1 32 c1)) (p := ⟨w.heap.size, 2, none⟩) (Nat.le_refl _) (.slice a2 32 c2)) (p := ⟨w.heap.size, 3, none⟩) (Nat.le_refl _) (.slice ac 3 cc))
      have SF : SigV ((((wr.setCell ⟨w.heap.size, 0, none⟩ (.int .i64 (i : Int))).setCell ⟨w.heap.size, 1, none⟩ (.slice a1 32 c1)).setCell ⟨w.heap.size, 2, none⟩ (.slice a2 32 c2)).setCell ⟨w.heap.size, 3, none⟩ (.slice ac 3 cc)) (w.heap.size + 1) (.slice a1 32 c1) (.slice a2 32 c2) (.slice ac 3 cc) (onesTo seed i (dig msg) 32) (restTo seed i (dig msg) 32) (pathN 3 (keysTo seed 8) i) := (SigV.set (j := 3) (x := .slice ac 3 cc) (SigV.set (j := 2) (x := .slice a2 32 c2) (SigV.set (j := 1) (x := .slice a1 32 c1) (SigV.set (j := 0) (x := .int .i64 (i : Int)) hS.val (Nat.lt_succ_self _)) (Nat.lt_succ_self _)) (Nat.lt_succ_self _)) (Nat.lt_succ_self _))
      go_wp2_with fail
      generalize ((((wr.setCell ⟨w.heap.size, 0, none⟩ (.int .i64 (i : Int))).setCell ⟨w.heap.size, 1, none⟩ (.slice a1 32 c1)).setCell ⟨w.heap.size, 2, none⟩ (.slice a2 32 c2)).setCell ⟨w.heap.size, 3, none⟩ (.slice ac 3 cc)) = wf at AF GF SF ⊢
      have d0 := (blk_cell AF 0 (x := .int .i64 (i : Int)) rfl).1
      have d1 := (blk_cell AF 1 (x := .slice a1 32 c1) rfl).1
      have d2 := (blk_cell AF 2 (x := .slice a2 32 c2) rfl).1
      have d3 := (blk_cell AF 3 (x := .slice ac 3 cc) rfl).1
      refine bodyPost_ret (v := .agg #[.int .i64 (i : Int), .slice a1 32 c1, .slice a2 32 c2, .slice ac 3 cc]) (by simp [results, Tryz.results61, go_sem, d0, d1, d2, d3]) rfl ⟨_, _, _, rfl, SF.mono (by omega), GF⟩
end Go.Proofs.YtiflfcpoajijaaaGreatDoor.Sg
