/- The specification's MessageBits. -/
import Derived.Test.YtimmeclclilpdaaGreatDoorMb
namespace Go.Proofs.YtimmeclclilpdaaGreatDoor.Mb
open Go.RowKit Go.Proofs.YtimmeclclilpdaaGreatDoor.Sl Go.Proofs.YtimmeclclilpdaaGreatDoor.By Go.Proofs.YtimmeclclilpdaaGreatDoor.Ap Go.Proofs.YtimmeclclilpdaaGreatDoor.Tx Go.Proofs.YtimmeclclilpdaaGreatDoor.Sh Go.Proofs.YtimmeclclilpdaaGreatDoor.Ho Go.Proofs.YtimmeclclilpdaaGreatDoor.Se Go.Proofs.YtimmeclclilpdaaGreatDoor.Ka Go.Proofs.YtimmeclclilpdaaGreatDoor.Sx Go.Proofs.YtimmeclclilpdaaGreatDoor.Hf

theorem own_none (w w1 : World) (hb : Below w.heap.size w w1) : OwnB 5 (w1.alloc (.cells #[] 5)) w.heap.size (.slice (some ⟨w1.heap.size, 0, none⟩) 0 0) [] := own_made _ _ _ _ _ hb.size (by simp [maxLen]) rfl
set_option maxRecDepth 100000 in
set_option maxHeartbeats 400000 in
theorem l03Bits_any (msg : ByteArray) (w : World) (hm : msg.size ≤ 65530) :
    Calls Tryz.prog 79 #[.string msg] w fun e w' => e = .returned (.string (mbits msg)) ∧ Below w.heap.size w w' := by
  obtain ⟨i0, hi, hz0, hz1, hz2⟩ := info_parts info5
  have HE : Hid (bys (bDigest ++ msg) = bys bDigest ++ bys msg) := bys_append _ _
  have HL : Hid ((bys bDigest ++ bys msg).length ≤ 65536) := dig_len msg hm
  have HD : Hid (hashS (bys bDigest ++ bys msg) = dig msg ∧ (dig msg).size = 32) := ⟨rfl, dig_size msg hm⟩
  have HM : Hid (mbits msg = strOfNums (bitsU (dig msg) 32)) := rfl
  have hA : ¬ 9223372036854775807 < (⟨#[100, 105, 103, 101, 115, 116]⟩ : ByteArray).size + msg.size := by have : (⟨#[100, 105, 103, 101, 115, 116]⟩ : ByteArray).size = 6 := rfl; omega
  have hA' : ¬ 9223372036854775807 < 6 + msg.size := by omega
  obtain ⟨v2, w2, hc2, r2, b2⟩ := bytes_run (bDigest ++ msg) w
  have hc2' : (convert 9 22 (.string ((⟨#[100, 105, 103, 101, 115, 116]⟩ : ByteArray) ++ msg))).run Tryz.prog w = .ok v2 w2 := hc2
  have R2 : Hid (RowB w2 v2 (bys (bDigest ++ msg))) := r2
  have B2 : Hid (Below w.heap.size w w2) := b2
  clear hc2 r2 b2
  go_enter Tryz.func79, Tryz.ntmps79
  go_wp2_with fail
  refine (hash1_any v2 _ w2 R2.out (by rw [HE.out]; exact HL.out)).mono ?_
  rintro e w3 ⟨rfl, b3⟩
  rw [HE.out, HD.out.1]
  obtain ⟨d, HDD⟩ : ∃ d, Hid (dig msg = d) := ⟨_, rfl⟩
  rw [HDD.out]
  have HZ : Hid (d.size = 32) := by show _ = _; rw [← HDD.out]; exact HD.out.2
  have B3 : Hid (Below w.heap.size w w3) := B2.out.trans (b3.mono B2.out.size)
  clear b3
  go_wp2_with fail
  go_loopw [4, 5] (fun u j wr => ∃ k : Nat, k ≤ 32 ∧ j = .int .i64 k ∧ OwnB 5 wr w.heap.size u (bitsU d k) ∧ Below w.heap.size w wr ∧ w.heap.size ≤ wr.heap.size) (fun _ j _ => 32 - (intOf j).toNat)
  case atStart => exact ⟨0, by omega, rfl, own_none w w3 B3.out, B3.out.alloc B3.out.size _, by have := B3.out.size; simp; omega⟩
  case round =>
    obtain ⟨k, hk, rfl, ho, hb, hB⟩ := hrel
    by_cases hlt : k < 32
    · have h1 : (k : Int) / 8 < d.size := by have := HZ.out; omega
      have h2 : k / 8 < d.size := by have := HZ.out; omega
      have HS : Hid (bitsU d (k + 1) = bitsU d k ++ [(48 + bits BinOp.and IntKind.u8 (((d[k / 8]'h2).toNat : Int) / 2 ^ (7 - k % 8)) 1) % 256]) := by
        show _ = _
        rw [show bitsU d (k + 1) = bitsU d k ++ [bitC d k] from rfl, bitC_at d k h2]
        rfl
      have HN : Hid ((bitsU d k).length + 1 ≤ 140737488355328) := by show _ ≤ _; rw [bitsU_length]; omega
      go_wp2_with (at_builtin; go_must (refine wpList_append_byte (by rfl) _ _ 22 (by rfl) 5 i0 Tryz.underlying22 hi hz0 hz1 hz2 w.heap.size w wr _ _ _ (by rfl) ho hb hB (by rfl) HN.out ?_; intro v5 w5 o5 b5 s5))
      rw [← HS.out] at o5
      exact ⟨⟨k + 1, by omega, by go_num, o5, b5, s5⟩, by simp [intOf]; omega⟩
    · obtain rfl : k = 32 := by omega
      have hcv := By.run_convert_own (P := Tryz.prog) wr w.heap.size 22 5 9 Tryz.underlying22 Tryz.underlying5 Tryz.underlying9 u4 _ ho
      go_wp2_with fail
      go_ret
      rw [HM.out, HDD.out]
      exact ⟨rfl, hb⟩
end Go.Proofs.YtimmeclclilpdaaGreatDoor.Mb
