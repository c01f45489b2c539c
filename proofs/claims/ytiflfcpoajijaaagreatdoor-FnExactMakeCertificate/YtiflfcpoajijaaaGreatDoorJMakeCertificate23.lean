/- The specification's l03Sign. -/
import Derived.Test.YtiflfcpoajijaaaGreatDoorJMakeCertificate13
namespace Go.Proofs.YtiflfcpoajijaaaGreatDoor.Sg
open Go.RowKit Go.Proofs.YtiflfcpoajijaaaGreatDoor.Sl Go.Proofs.YtiflfcpoajijaaaGreatDoor.By Go.Proofs.YtiflfcpoajijaaaGreatDoor.Ap Go.Proofs.YtiflfcpoajijaaaGreatDoor.Tx Go.Proofs.YtiflfcpoajijaaaGreatDoor.Sh Go.Proofs.YtiflfcpoajijaaaGreatDoor.Ho Go.Proofs.YtiflfcpoajijaaaGreatDoor.Se Go.Proofs.YtiflfcpoajijaaaGreatDoor.Ka Go.Proofs.YtiflfcpoajijaaaGreatDoor.Sx Go.Proofs.YtiflfcpoajijaaaGreatDoor.Hf Go.Proofs.YtiflfcpoajijaaaGreatDoor.Sa Go.Proofs.YtiflfcpoajijaaaGreatDoor.Kx Go.Proofs.YtiflfcpoajijaaaGreatDoor.Lv Go.Proofs.YtiflfcpoajijaaaGreatDoor.Cr Go.Proofs.YtiflfcpoajijaaaGreatDoor.Pa Go.Proofs.YtiflfcpoajijaaaGreatDoor.Mb

theorem away_ne {a b n c m d : Nat} (h : a ≠ b) : Away (.slice (some ⟨a, 0, none⟩) n c) (.slice (some ⟨b, 0, none⟩) m d) := fun k h1 h2 => by
  have e1 : a = k := Option.some.inj h1
  have e2 : b = k := Option.some.inj h2
  omega
theorem at_ne {a p n c : Nat} (h : a ≠ p) : ∀ k, (Value.slice (some ⟨a, 0, none⟩) n c).ownBlock = some k → k ≠ p := fun k h1 => by
  have e1 : a = k := Option.some.inj h1
  omega
/-- Three empty lists and the signature's block, laid one behind the other. -/
def w4e (W : World) : World := ((W.alloc (.cells #[] 9)).alloc (.cells #[] 9)).alloc (.cells #[] 9)
theorem start4 (W : World) (B i : Nat) (hB : B ≤ W.heap.size) :
    SigAt ((w4e W).alloc (.cells #[.int .i64 (i : Int), .slice (some ⟨W.heap.size, 0, none⟩) 0 0, .slice (some ⟨W.heap.size + 1, 0, none⟩) 0 0, .slice (some ⟨W.heap.size + 1 + 1, 0, none⟩) 0 0] 37)) B (W.heap.size + 1 + 1 + 1) i
      (.slice (some ⟨W.heap.size, 0, none⟩) 0 0) (.slice (some ⟨W.heap.size + 1, 0, none⟩) 0 0) (.slice (some ⟨W.heap.size + 1 + 1, 0, none⟩) 0 0) [] [] [] := by
  have s1 := size_new W (.cells #[] 9)
  have s2 := size_new (W.alloc (.cells #[] 9)) (.cells #[] 9)
  have s3 : (w4e W).heap.size = W.heap.size + 1 + 1 + 1 := by unfold w4e; rw [size_new, s2, s1]
  have m1 := OwnS.made W B hB
  have m2 := OwnS.made (W.alloc (.cells #[] 9)) B (by omega)
  have m3 := OwnS.made ((W.alloc (.cells #[] 9)).alloc (.cells #[] 9)) B (by omega)
  rw [s1] at m2
  rw [s2, s1] at m3
  have hb := blk_new (w4e W) #[.int .i64 (i : Int), .slice (some ⟨W.heap.size, 0, none⟩) 0 0, .slice (some ⟨W.heap.size + 1, 0, none⟩) 0 0, .slice (some ⟨W.heap.size + 1 + 1, 0, none⟩) 0 0] 37
  rw [s3] at hb
  refine ⟨hb, by omega, OwnS.below (OwnS.below (OwnS.below m1 (bel_new _ _)) (bel_new _ _)) (bel_new _ _), OwnS.below (OwnS.below m2 (bel_new _ _)) (bel_new _ _), OwnS.below m3 (bel_new _ _), away_ne (by omega), away_ne (by omega), away_ne (by omega), at_ne (by omega), at_ne (by omega), at_ne (by omega)⟩
theorem w4e_bel (W : World) (o : Obj) : Below W.heap.size W ((w4e W).alloc o) := by
  have h1 := bel_new W (.cells #[] 9)
  have h2 := h1.trans ((bel_new (W.alloc (.cells #[] 9)) (.cells #[] 9)).mono h1.size)
  have h3 := h2.trans ((bel_new ((W.alloc (.cells #[] 9)).alloc (.cells #[] 9)) (.cells #[] 9)).mono h2.size)
  exact h3.trans ((bel_new (w4e W) o).mono h3.size)
theorem row_set {w : World} {p j : Nat} {v x : Value} {ts : List ByteArray} (h : RowT w v ts) (hp : ∀ k, v.ownBlock = some k → k ≠ p) : RowT (w.setCell ⟨p, j, none⟩ x) v ts := by
  obtain ⟨a, cap, rfl, h⟩ := h
  refine ⟨a, cap, rfl, ?_⟩
  rcases h with h | ⟨b, off, rfl, hc, hlt, h⟩
  · exact .inl h
  · exact .inr ⟨b, off, rfl, hc, by simpa using hlt, fun i hi => (World.cell?_of_block (a := ⟨b, off + i, none⟩) (blk_far (hp b rfl) j x)).trans (h i hi)⟩

theorem RowT.drew {w : World} {v : Value} {ts : List ByteArray} (h : RowT w v ts) : RowT w.drew v ts := h
set_option maxRecDepth 100000 in
set_option maxHeartbeats 3200000 in
theorem l03Sign_any (seed msg : ByteArray) (i : Nat) (w : World) (hs : seed.size ≤ 60000) (hm : msg.size ≤ 65530) (hi : i < 8) :
    Calls Tryz.prog 45 #[.string seed, .int .i64 i, .string msg] w fun e w' => ∃ va vb vc, e = .returned (.agg #[.int .i64 i, va, vb, vc]) ∧ SigV w' w.heap.size va vb vc (onesTo seed i (dig msg) 32) (restTo seed i (dig msg) 32) (pathN 3 (keysTo seed 8) i) ∧ Below w.heap.size w w' := by
  obtain ⟨i0, hi0, hz0, hz1, hz2⟩ := info_parts info9
  have HS : Hid (∀ _ : Unit, seed.size ≤ 60000 ∧ i < 8 ∧ msg.size ≤ 65530) := fun _ => ⟨hs, hi, hm⟩
  have H0 : Hid (Below w.heap.size w (w0 w) ∧ (w0 w).heap.size = w.heap.size + 1) := ⟨w0_bel w, w0_size w⟩
  clear hs hi hm
  go_enter Tryz.func45, Tryz.ntmps45
  go_wp2_with fail
  refine (l03Bits_any msg (w0 w) (HS.out ()).2.2).mono ?_
  rintro e w1 ⟨rfl, b1⟩
  obtain ⟨bs, HBS⟩ : ∃ bs, Hid (bs = mbits msg) := ⟨_, rfl⟩
  rw [← HBS.out]
  have B1 : Hid (Below (w.heap.size + 1) (w0 w) w1 ∧ w.heap.size + 1 ≤ w1.heap.size) := by
    have h2 := b1.size
    rw [H0.out.2] at b1 h2
    exact ⟨b1, h2⟩
  have SA : Hid _ := start4 w1 (w.heap.size + 1) i B1.out.2
  have SB : Hid (∀ o, Below (w.heap.size + 1) (w0 w) ((w4e w1).alloc o)) := fun o => B1.out.1.trans ((w4e_bel w1 o).mono B1.out.2)
  unfold w4e at SA SB
  clear b1
  go_wp2_with fail
  go_loopw [9] (fun j wr => ∃ (k : Nat) (va vb vc : Value), k ≤ 32 ∧ j = .int .i64 k ∧ SigAt wr (w.heap.size + 1) (w1.heap.size + 1 + 1 + 1) i va vb vc (onesTo seed i (dig msg) k) (restTo seed i (dig msg) k) [] ∧ Below (w.heap.size + 1) (w0 w) wr) (fun j _ => 32 - (intOf j).toNat)
  case atStart => exact ⟨0, _, _, _, by omega, rfl, SA.out, SB.out _⟩
  case round =>
    clear SA SB B1
    generalize w1.heap.size + 1 + 1 + 1 = p at hrel ⊢
    obtain ⟨k, va, vb, vc, hk, rfl, hS, hb⟩ := hrel
    by_cases hlt : k < 32
    · have hlt' : decide ((k : Int) < 32) = true := by rw [decide_eq_true_eq]; omega
      have HN : Hid (bn (dig msg) k ≤ 1) := by show _ ≤ _; rcases (bn_two (dig msg) k).1 with e | e <;> omega
      have HEa : Hid (onesTo seed i (dig msg) (k + 1) = onesTo seed i (dig msg) k ++ [sec seed i k (bn (dig msg) k)]) := rfl
      have HEb : Hid (restTo seed i (dig msg) (k + 1) = restTo seed i (dig msg) k ++ [hashS (bys (sec seed i k (1 - bn (dig msg) k)))]) := rfl
      have HLa : Hid ((onesTo seed i (dig msg) k).length + 1 ≤ 1000000000) := by show _ ≤ _; rw [onesTo_length]; omega
      have HLb : Hid ((restTo seed i (dig msg) k).length + 1 ≤ 1000000000) := by show _ ≤ _; rw [restTo_length]; omega
      have hsz : bs.size = 32 := by rw [HBS.out]; exact mbits_size msg
      have h1 : k < bs.size := by omega
      have h2 : (k : Int) < (bs.size : Int) := by omega
      have h3 := mb_at msg bs HBS.out k hlt h1
      have hv : (((bs[k]'h1).toNat : Int) - 48) % 256 = (bn (dig msg) k : Int) := by rw [h3, (bn_two (dig msg) k).2]; have := HN.out; omega
      clear h3 hsz
      generalize bn (dig msg) k = b at HN HEa HEb hv
      obtain ⟨b', hb'⟩ : ∃ b' : Nat, b' = 1 - b := ⟨_, rfl⟩
      rw [← hb'] at HEb
      have hsub : (1 : Int) - (b : Int) = (b' : Int) := by have := HN.out; omega
      have HNb : Hid (b' ≤ 1) := by show _ ≤ _; omega
      have hwr : IntKind.i64.wrap (b' : Int) = (b' : Int) := by rw [IntKind.wrap_i64]; omega
      clear hb'
      obtain ⟨c1, _⟩ := blk_cell hS.blk 1 (x := va) rfl
      have hbs : w.heap.size + 1 ≤ wr.heap.size := by have := hS.lt; have := hS.base; omega
      have HX : Hid (∀ W, Calls Tryz.prog 77 #[.string seed, .int .i64 i, .int .i64 k, .int .i64 b] W fun e w' => e = .returned (.string (sec seed i k b)) ∧ Below W.heap.size W w') := fun W => l03Secret_any seed i k b W (HS.out ()).1 (by have := (HS.out ()).2.1; omega) (by omega) (by have := HN.out; omega)
      have HY : Hid (∀ W, Calls Tryz.prog 77 #[.string seed, .int .i64 i, .int .i64 k, .int .i64 b'] W fun e w' => e = .returned (.string (sec seed i k b')) ∧ Below W.heap.size W w') := fun W => l03Secret_any seed i k b' W (HS.out ()).1 (by have := (HS.out ()).2.1; omega) (by omega) (by have := HNb.out; omega)
      have HC : Hid ((bys (sec seed i k b')).length ≤ 65536) := (by show _ ≤ _; rw [bys_length, sec_size seed i k b' (HS.out ()).1]; decide)
      generalize sec seed i k b = z1 at HEa HX
      generalize sec seed i k b' = z2 at HEb HY HC
      go_wp2_with fail
      go_region_law (first
        | (go_simp; go_at_call 77; refine (HX.out _).mono ?_; rintro e w3 ⟨rfl, b3⟩; have S3 := hS.drew.below b3; have g3 := hb.drew.trans (b3.mono hbs); have y1 := (blk_cell S3.blk 1 (x := va) rfl).1; have y3 : ∀ o, (w3.alloc o).cell? ⟨p, 1, none⟩ = some va := fun o => (blk_cell (S3.below (bel_new w3 o)).blk 1 (x := va) rfl).1; clear b3; try go_simp)
        | (refine step_txtK (by rfl) _ _ 35 (by rfl) Tryz.underlying35 hi0 hz0 hz1 hz2 (w.heap.size + 1) _ _ _ _ [z1] (by rfl) (by rfl) (OwnS.below S3.oa (bel_new _ _)) (by rw [size_new]; have := S3.lt; have := S3.base; omega) (row_lit w3 9 [z1] _ 1 rfl rfl) HLa.out ?_; intro v5 w5 o5 k5; have k6 := (Kp.of_below va (bel_new w3 _)).trans k5; obtain ⟨x1, x2⟩ := S3.kpA k6; obtain ⟨a5, cp5, e5, _⟩ := o5.row; rw [List.length_append, onesTo_length] at e5; change v5 = .slice a5 (k + 1) cp5 at e5; subst e5))
      all_goals
        have S6 := S3.setA k6 o5
        have g6 := bel_setp (j := 1) (x := .slice a5 (k + 1) cp5) g3 (by have := S3.lt; have := S3.base; omega) S3.oa k6 S3.base
        generalize w5.setCell ⟨p, 1, none⟩ (.slice a5 (k + 1) cp5) = w6 at S6 g6 ⊢
        generalize (Value.slice a5 (k + 1) cp5) = va6 at S6 ⊢
        rw [← HEa.out] at S6
        clear HX x1 x2 k5 k6 o5 S3 g3 hS hb c1 hbs
        clear y1 y3
        obtain ⟨c1, _⟩ := blk_cell S6.blk 2 (x := vb) rfl
        have hbs : w.heap.size + 1 ≤ w6.heap.size := by have := S6.lt; have := S6.base; omega
        go_wp2_with fail
        go_region_law (first
          | (go_simp; go_at_call 77; refine (HY.out _).mono ?_; rintro e w3 ⟨rfl, b3⟩; have S3 := S6.drew.below b3; have g3 := g6.drew.trans (b3.mono hbs); have y1 := (blk_cell S3.blk 2 (x := vb) rfl).1; obtain ⟨v9, w9, hcv9, r9, b9⟩ := bytes_run z2 w3; have R9 : Hid (RowB w9 v9 (bys z2)) := r9; have S9 := S3.below b9; have g9 := g3.trans (b9.mono (by have := S3.lt; have := S3.base; omega)); have y9 := (blk_cell S9.blk 2 (x := vb) rfl).1; clear b3 r9 b9; try go_simp)
          | (go_simp; go_at_call 74; refine (hash1_any v9 _ w9 R9.out HC.out).mono ?_; rintro e w4 ⟨rfl, b4⟩; have S4 := S9.below b4; have g4 := g9.trans (b4.mono (by have := S9.lt; have := S9.base; omega)); have y2 := (blk_cell S4.blk 2 (x := vb) rfl).1; have y4 : ∀ o, (w4.alloc o).cell? ⟨p, 2, none⟩ = some vb := fun o => (blk_cell (S4.below (bel_new w4 o)).blk 2 (x := vb) rfl).1; clear b4; try go_simp)
          | (refine step_txtK (by rfl) _ _ 35 (by rfl) Tryz.underlying35 hi0 hz0 hz1 hz2 (w.heap.size + 1) _ _ _ _ [hashS (bys z2)] (by rfl) (by rfl) (OwnS.below S4.ob (bel_new _ _)) (by rw [size_new]; have := S4.lt; have := S4.base; omega) (row_lit w4 9 [hashS (bys z2)] _ 1 rfl rfl) HLb.out ?_; intro v7 w7 o7 k7; have k8 := (Kp.of_below vb (bel_new w4 _)).trans k7; obtain ⟨x1, x2⟩ := S4.kpB k8; obtain ⟨a7, cp7, e7, _⟩ := o7.row; rw [List.length_append, restTo_length] at e7; change v7 = .slice a7 (k + 1) cp7 at e7; subst e7))
        all_goals
          have S8 := S4.setB k8 o7
          have g8 := bel_setp (j := 2) (x := .slice a7 (k + 1) cp7) g4 (by have := S4.lt; have := S4.base; omega) S4.ob k8 S4.base
          generalize w7.setCell ⟨p, 2, none⟩ (.slice a7 (k + 1) cp7) = w8 at S8 g8 ⊢
          generalize (Value.slice a7 (k + 1) cp7) = vb8 at S8 ⊢
          rw [← HEb.out] at S8
          go_wp2_with fail
          exact ⟨⟨k + 1, va6, vb8, vc, by omega, by go_num, S8, g8⟩, by simp [intOf]; omega⟩
    · obtain rfl : k = 32 := by omega
      have hbs : w.heap.size + 1 ≤ wr.heap.size := by have := hS.lt; have := hS.base; omega
      have HZ : Hid (SigAt wr (w.heap.size + 1) p i va vb vc (onesTo seed i (dig msg) 32) (restTo seed i (dig msg) 32) []) := hS
      clear hS
      go_wp2_with fail
      refine (l03Keys_any seed wr (HS.out ()).1).mono ?_
      rintro e w2 ⟨v2, rfl, o2, b2⟩
      have S2 : Hid (SigAt w2 (w.heap.size + 1) p i va vb vc (onesTo seed i (dig msg) 32) (restTo seed i (dig msg) 32) []) := HZ.out.below b2
      have L2 : Hid (OwnS w2 (w.heap.size + 1) v2 (keysTo seed 8) ∧ Row32 3 (keysTo seed 8) ∧ Away v2 vc ∧ (∀ k, v2.ownBlock = some k → k ≠ p) ∧ Below (w.heap.size + 1) (w0 w) w2) := by
        refine ⟨OwnS.mono o2 hbs, keys32 seed (HS.out ()).1, ?_, ?_, hb.trans (b2.mono hbs)⟩
        · intro g h1 h2
          have e1 := (OwnS.lt' o2 g h1).1
          have e2 := (OwnS.lt' HZ.out.oc g h2).2
          omega
        · intro g h1 h2
          have e1 := (OwnS.lt' o2 g h1).1
          have e2 := HZ.out.lt
          omega
      clear o2 b2 hb hbs HZ
      go_wp2_with fail
      go_loopw [11, 12] (fun a l wr => ∃ (q : Nat) (us tc : List ByteArray) (vc : Value), q ≤ 3 ∧ a = .int .i64 ((i / 2 ^ (3 - q) : Nat) : Int) ∧ OwnS wr (w.heap.size + 1) l us ∧ Row32 q us ∧ Away l vc ∧ (∀ k, l.ownBlock = some k → k ≠ p) ∧ SigAt wr (w.heap.size + 1) p i va vb vc (onesTo seed i (dig msg) 32) (restTo seed i (dig msg) 32) tc ∧ tc.length = 3 - q ∧ tc ++ pathN q us (i / 2 ^ (3 - q)) = pathN 3 (keysTo seed 8) i ∧ Below (w.heap.size + 1) (w0 w) wr) (fun _ l _ => lenV l)
      case atStart =>
        exact ⟨3, keysTo seed 8, [], vc, by omega, val_eq (by rw [Nat.sub_self, Nat.pow_zero, Nat.div_one]), L2.out.1, L2.out.2.1, L2.out.2.2.1, L2.out.2.2.2.1, S2.out, rfl, by rw [Nat.sub_self, Nat.pow_zero, Nat.div_one, List.nil_append], L2.out.2.2.2.2⟩
      case round =>
        clear S2 L2 vc
        obtain ⟨q, us, tc, vc, hq, rfl, hl, h32, haw, hap, hS, htl, he, hb⟩ := hrel
        have HE : Hid (tc ++ pathN q us (i / 2 ^ (3 - q)) = pathN 3 (keysTo seed 8) i ∧ tc.length = 3 - q) := ⟨he, htl⟩
        have HL : Hid (OwnS wr (w.heap.size + 1) u12 us) := hl
        have HA : Hid (Away u12 vc ∧ ∀ k, u12.ownBlock = some k → k ≠ p) := ⟨haw, hap⟩
        obtain ⟨al, cl, rfl, hc⟩ := hl.row
        clear he htl hl haw hap
        cases q with
        | zero =>
          have h1 : us.length = 1 := h32.1
          have hl3 : ¬ (1 : Int) < (us.length : Int) := by omega
          have HP : Hid (tc = pathN 3 (keysTo seed 8) i) := by show _ = _; rw [← HE.out.1]; unfold pathN; rw [List.append_nil]
          clear h32 h1 hc
          obtain ⟨a1, c1, e1, _⟩ := hS.oa.row
          rw [onesTo_length] at e1
          subst e1
          obtain ⟨a2, c2, e2, _⟩ := hS.ob.row
          rw [restTo_length] at e2
          subst e2
          obtain ⟨ac, cc, e3, _⟩ := hS.oc.row
          rw [HE.out.2] at e3
          change vc = .slice ac 3 cc at e3
          subst e3
          rw [HP.out] at hS
          obtain ⟨r0, _⟩ := blk_cell hS.blk 0 (x := .int .i64 (i : Int)) rfl
          obtain ⟨r1, _⟩ := blk_cell hS.blk 1 (x := .slice a1 32 c1) rfl
          obtain ⟨r2, _⟩ := blk_cell hS.blk 2 (x := .slice a2 32 c2) rfl
          obtain ⟨r3, _⟩ := blk_cell hS.blk 3 (x := .slice ac 3 cc) rfl
          have A6 : wr.heap[w.heap.size]? = some (.cells #[.int .i64 0, .slice none 0 0, .slice none 0 0, .slice none 0 0] 37 (0, 0)) := (hb.block w.heap.size (by omega)).trans (blk_new _ _ _)
          have G6 : Below w.heap.size w wr := (w0_bel w).trans (hb.mono (by omega))
          obtain ⟨zc0, zf0⟩ := blk_cell A6 0 (x := .int .i64 0) rfl
          obtain ⟨zc1, zf1⟩ := blk_cell A6 1 (x := .slice none 0 0) rfl
          obtain ⟨zc2, zf2⟩ := blk_cell A6 2 (x := .slice none 0 0) rfl
          obtain ⟨zc3, zf3⟩ := blk_cell A6 3 (x := .slice none 0 0) rfl
          have AF : ((((wr.setCell ⟨w.heap.size, 0, none⟩ (.int .i64 (i : Int))).setCell ⟨w.heap.size, 1, none⟩ (.slice a1 32 c1)).setCell ⟨w.heap.size, 2, none⟩ (.slice a2 32 c2)).setCell ⟨w.heap.size, 3, none⟩ (.slice ac 3 cc)).heap[w.heap.size]? = some (.cells #[.int .i64 (i : Int), .slice a1 32 c1, .slice a2 32 c2, .slice ac 3 cc] 37 (0, 0)) := (blk_set (blk_set (blk_set (blk_set A6 0 (.int .i64 (i : Int))) 1 (.slice a1 32 c1)) 2 (.slice a2 32 c2)) 3 (.slice ac 3 cc))
          have GF : Below w.heap.size w ((((wr.setCell ⟨w.heap.size, 0, none⟩ (.int .i64 (i : Int))).setCell ⟨w.heap.size, 1, none⟩ (.slice a1 32 c1)).setCell ⟨w.heap.size, 2, none⟩ (.slice a2 32 c2)).setCell ⟨w.heap.size, 3, none⟩ (.slice ac 3 cc)) := (Below.setCell (Below.setCell (Below.setCell (Below.setCell G6 (p := ⟨w.heap.size, 0, none⟩) (Nat.le_refl _) (.int .i64 (i : Int))) (p := ⟨w.heap.size, 1, none⟩) (Nat.le_refl _) (.slice a1 32 c1)) (p := ⟨w.heap.size, 2, none⟩) (Nat.le_refl _) (.slice a2 32 c2)) (p := ⟨w.heap.size, 3, none⟩) (Nat.le_refl _) (.slice ac 3 cc))
          have SF : SigV ((((wr.setCell ⟨w.heap.size, 0, none⟩ (.int .i64 (i : Int))).setCell ⟨w.heap.size, 1, none⟩ (.slice a1 32 c1)).setCell ⟨w.heap.size, 2, none⟩ (.slice a2 32 c2)).setCell ⟨w.heap.size, 3, none⟩ (.slice ac 3 cc)) (w.heap.size + 1) (.slice a1 32 c1) (.slice a2 32 c2) (.slice ac 3 cc) (onesTo seed i (dig msg) 32) (restTo seed i (dig msg) 32) (pathN 3 (keysTo seed 8) i) := (SigV.set (j := 3) (x := .slice ac 3 cc) (SigV.set (j := 2) (x := .slice a2 32 c2) (SigV.set (j := 1) (x := .slice a1 32 c1) (SigV.set (j := 0) (x := .int .i64 (i : Int)) hS.val (Nat.lt_succ_self _)) (Nat.lt_succ_self _)) (Nat.lt_succ_self _)) (Nat.lt_succ_self _))
          go_wp2_with fail
          generalize ((((wr.setCell ⟨w.heap.size, 0, none⟩ (.int .i64 (i : Int))).setCell ⟨w.heap.size, 1, none⟩ (.slice a1 32 c1)).setCell ⟨w.heap.size, 2, none⟩ (.slice a2 32 c2)).setCell ⟨w.heap.size, 3, none⟩ (.slice ac 3 cc)) = wf at AF GF SF ⊢
          have d0 := (blk_cell AF 0 (x := .int .i64 (i : Int)) rfl).1
          have d1 := (blk_cell AF 1 (x := .slice a1 32 c1) rfl).1
          have d2 := (blk_cell AF 2 (x := .slice a2 32 c2) rfl).1
          have d3 := (blk_cell AF 3 (x := .slice ac 3 cc) rfl).1
          refine bodyPost_ret (v := .agg #[.int .i64 (i : Int), .slice a1 32 c1, .slice a2 32 c2, .slice ac 3 cc]) (by simp [results, Tryz.results45, go_sem, d0, d1, d2, d3]) rfl ⟨_, _, _, rfl, SF.mono (by omega), GF⟩
        | succ q =>
          have h2 : us.length = 2 * 2 ^ q := by rw [h32.1, Nat.pow_succ]; omega
          have hpos : 0 < 2 ^ q := Nat.pow_pos (by decide)
          have hpw := pow_small (show q ≤ 3 by omega)
          have HU : Hid (Row32 q (lvlTo us (2 ^ q)) ∧ us.length = 2 * 2 ^ q ∧ (∀ t ∈ us, t.size = 32) ∧ 2 ^ q ≤ 1000 ∧ (lvlTo us (2 ^ q)).length < us.length) := ⟨h32.up, h2, h32.2, by omega, by rw [lvlTo_length]; omega⟩
          have hl3 : (1 : Int) < (us.length : Int) := by omega
          have hj : sib (i / 2 ^ (3 - (q + 1))) < us.length := by rw [h32.1]; exact sib_in i (HS.out ()).2.1 q (by omega)
          rcases hc with hc | ⟨b, off, rfl, _, hbw, hcell⟩
          · rw [hc] at hl3; exact absurd hl3 (by decide)
          have d2 := hcell _ hj
          have HM : Hid (i / 2 ^ (3 - (q + 1)) < 8 ∧ i / 2 ^ (3 - (q + 1)) / 2 = i / 2 ^ (3 - q)) := ⟨Nat.lt_of_le_of_lt (Nat.div_le_self _ _) (HS.out ()).2.1, half_step i q (by omega)⟩
          have HT : Hid (tc.length = 3 - (q + 1)) := HE.out.2
          have HP : Hid (tc ++ tnth us (sib (i / 2 ^ (3 - (q + 1)))) :: pathN q (lvlTo us (2 ^ q)) (i / 2 ^ (3 - (q + 1)) / 2) = pathN 3 (keysTo seed 8) i) := HE.out.1
          clear h32 h2 hpos hpw hcell HE
          generalize i / 2 ^ (3 - (q + 1)) = m at hj d2 HM HP
          have hx := xor_one m HM.out.1
          generalize tnth us (sib m) = z at d2 HP
          generalize sib m = j at hx hj d2
          have q1 : (j : Int) < (us.length : Int) := by omega
          have hm7 : (m : Int) < 8 := by have := HM.out.1; omega
          obtain ⟨c1, _⟩ := blk_cell hS.blk 3 (x := vc) rfl
          have y3 : ∀ o, (wr.alloc o).cell? ⟨p, 3, none⟩ = some vc := fun o => (blk_cell (hS.below (bel_new wr o)).blk 3 (x := vc) rfl).1
          have hbs : w.heap.size + 1 ≤ wr.heap.size := by have := hS.lt; have := hS.base; omega
          go_wp2_with fail
          go_region_law ((refine step_txtK (by rfl) _ _ 35 (by rfl) Tryz.underlying35 hi0 hz0 hz1 hz2 (w.heap.size + 1) _ _ _ _ [z] (by rfl) (by rfl) (OwnS.drew (OwnS.below hS.oc (bel_new _ _))) (by show _ ≤ (wr.alloc _).heap.size; rw [size_new]; omega) (RowT.drew (row_lit wr 9 [z] _ 1 rfl rfl)) (by rw [HT.out]; show _ + 1 ≤ _; omega) ?_; intro v5 w5 o5 k5; have k6 := (Kp.of_below vc (bel_new wr _).drew).trans k5; obtain ⟨x1, x2⟩ := hS.kpC k6; obtain ⟨a5, cp5, e5, _⟩ := o5.row; rw [List.length_append, HT.out] at e5; change v5 = .slice a5 (3 - (q + 1) + 1) cp5 at e5; rw [show 3 - (q + 1) + 1 = 3 - q by omega] at e5; subst e5))
          all_goals
            have S6 := hS.setC k6 o5
            have g6 := bel_setp (j := 3) (x := .slice a5 (3 - q) cp5) hb hbs hS.oc k6 hS.base
            have L6 := own_set (j := 3) (x := .slice a5 (3 - q) cp5) (OwnS.kept HL.out HA.out.1 k6) HA.out.2
            have A6 := kp_away k6 (fun k hk => (OwnS.lt' HL.out k hk).2) HA.out.1
            generalize w5.setCell ⟨p, 3, none⟩ (.slice a5 (3 - q) cp5) = w6 at S6 g6 L6 ⊢
            generalize (Value.slice a5 (3 - q) cp5) = vc6 at S6 A6 ⊢
            clear x1 x2 k5 k6 o5 hS hb c1 hbs y3 d2 HL HA
            go_wp2_with fail
            refine (l03Level_any _ us (2 ^ q) w6 L6.row HU.out.2.1 HU.out.2.2.2.1 HU.out.2.2.1).mono ?_
            rintro e w7 ⟨v7, rfl, o7, b7⟩
            have S7 := S6.below b7
            have g7 := g6.trans (b7.mono (by have := S6.lt; have := S6.base; omega))
            have A7 : Away v7 vc6 := by
              intro g h1 h2
              have e1 := (OwnS.lt' o7 g h1).1
              have e2 := (OwnS.lt' S6.oc g h2).2
              omega
            have P7 : ∀ k, v7.ownBlock = some k → k ≠ p := by
              intro g h1 h2
              have e1 := (OwnS.lt' o7 g h1).1
              have e2 := S6.lt
              omega
            have O7 := OwnS.mono o7 (B' := w.heap.size + 1) (by have := S6.lt; have := S6.base; omega)
            obtain ⟨a7, c7, e7, _⟩ := o7.row
            subst e7
            clear b7 o7
            go_wp2_with fail
            exact ⟨⟨q, lvlTo us (2 ^ q), tc ++ [z], vc6, by omega, val_eq (by rw [← HM.out.2]; omega), O7, HU.out.1, A7, P7, S7, by rw [List.length_append, HT.out]; show _ + 1 = _; omega, by rw [← HM.out.2, List.append_assoc]; exact HP.out, g7⟩, HU.out.2.2.2.2⟩
end Go.Proofs.YtiflfcpoajijaaaGreatDoor.Sg
