/- MessageBits, of the program and of the specification. -/
import Derived.Test.YtimmeclclilpdaaGreatDoorSx
import Derived.Test.YtimmeclclilpdaaGreatDoorHf
import Derived.Test.YtimmeclclilpdaaGreatDoorBits
namespace Go.Proofs.YtimmeclclilpdaaGreatDoor.Mb
open Go.RowKit Go.Proofs.YtimmeclclilpdaaGreatDoor.Sl Go.Proofs.YtimmeclclilpdaaGreatDoor.By Go.Proofs.YtimmeclclilpdaaGreatDoor.Ap Go.Proofs.YtimmeclclilpdaaGreatDoor.Tx Go.Proofs.YtimmeclclilpdaaGreatDoor.Sh Go.Proofs.YtimmeclclilpdaaGreatDoor.Ho Go.Proofs.YtimmeclclilpdaaGreatDoor.Se Go.Proofs.YtimmeclclilpdaaGreatDoor.Ka Go.Proofs.YtimmeclclilpdaaGreatDoor.Sx Go.Proofs.YtimmeclclilpdaaGreatDoor.Hf

/-- The sign of one bit of a hash; those of its first bits. -/
def bitC (h : ByteArray) (k : Nat) : Int := Bt.bitI (h.data.toList.getD (k / 8) 0).toNat (7 - k % 8)
def bitsU (h : ByteArray) : Nat → List Int
  | 0 => []
  | k + 1 => bitsU h k ++ [bitC h k]
theorem bitsU_length (h : ByteArray) : ∀ k, (bitsU h k).length = k
  | 0 => rfl
  | k + 1 => by unfold bitsU; rw [List.length_append, bitsU_length h k]; rfl
theorem bitC_at (h : ByteArray) (k : Nat) (hk : k / 8 < h.size) : bitC h k = Bt.bitI (h[k / 8]'hk).toNat (7 - k % 8) := by
  unfold bitC
  have hk' : k / 8 < h.data.toList.length := by simpa using hk
  rw [List.getD_eq_getElem?_getD, List.getElem?_eq_getElem hk']
  rfl
theorem bitI_eq (n k : Nat) (hn : n < 256) : Bt.bitI n k = 48 + ((n / 2 ^ k % 2 : Nat) : Int) := by
  have hq : n / 2 ^ k < 256 := Nat.lt_of_le_of_lt (Nat.div_le_self _ _) hn
  have e : (n : Int) / 2 ^ k = ((n / 2 ^ k : Nat) : Int) := by rw [Int.natCast_ediv, Int.natCast_pow]; rfl
  unfold Bt.bitI
  rw [e]
  generalize n / 2 ^ k = m at hq
  revert m
  decide +kernel
theorem bitI_two (n k : Nat) (hn : n < 256) : Bt.bitI n k = 48 ∨ Bt.bitI n k = 49 := by
  rw [bitI_eq n k hn]
  have : n / 2 ^ k % 2 < 2 := Nat.mod_lt _ (by decide)
  generalize n / 2 ^ k % 2 = m at this
  omega
theorem bitC_two (h : ByteArray) (k : Nat) : bitC h k = 48 ∨ bitC h k = 49 := bitI_two _ _ (UInt8.toNat_lt _)
theorem bitsU_range (h : ByteArray) (k : Nat) : ∀ z ∈ bitsU h k, 0 ≤ z ∧ z ≤ 255 := by
  induction k with
  | zero => intro z hz; cases hz
  | succ k ih =>
    intro z hz
    unfold bitsU at hz
    rcases List.mem_append.1 hz with hz | hz
    · exact ih z hz
    · rw [List.mem_singleton.1 hz]
      rcases bitC_two h k with e | e <;> rw [e] <;> decide
theorem bitsU_at (h : ByteArray) : ∀ (n k : Nat), k < n → (bitsU h n)[k]? = some (bitC h k)
  | 0, k, hk => by omega
  | n + 1, k, hk => by
    unfold bitsU
    by_cases e : k = n
    · subst e
      rw [List.getElem?_append_right (by rw [bitsU_length]; exact Nat.le_refl _), bitsU_length, Nat.sub_self]
      rfl
    · rw [List.getElem?_append_left (by rw [bitsU_length]; omega)]
      exact bitsU_at h n k (by omega)
/-- The hash whose bits a text shows; its bits as a text. -/
def dig (msg : ByteArray) : ByteArray := hashS (bys bDigest ++ bys msg)
def mbits (msg : ByteArray) : ByteArray := strOfNums (bitsU (dig msg) 32)
theorem dig_len (msg : ByteArray) (h : msg.size ≤ 65530) : (bys bDigest ++ bys msg).length ≤ 65536 := by
  rw [List.length_append, bys_length, bys_length]
  have : bDigest.size = 6 := rfl
  omega
theorem dig_size (msg : ByteArray) (h : msg.size ≤ 65530) : (dig msg).size = 32 := hash_size _ (dig_len msg h)
theorem mbits_size (msg : ByteArray) : (mbits msg).size = 32 := by unfold mbits; rw [strOfNums_size, bitsU_length]
/-- The first 32 of all 256 signs. -/
theorem cut_bits (s : ByteArray) (hs : s.size = 32) : (strOfNums (Bt.bitsTo s 32)).extract 0 32 = strOfNums (bitsU s 32) := by
  have e : (Bt.bitsTo s 32).take 32 = bitsU s 32 := by
    apply List.ext_getElem?
    intro k
    by_cases hk : k < 32
    · have h8 : k / 8 < s.size := by omega
      have hl := Bt.bitsTo_length s 32 (by omega)
      have h1 := Bt.bitsTo_at s hs k h8
      rw [List.getD_eq_getElem?_getD, List.getElem?_eq_getElem (by omega)] at h1
      rw [bitsU_at s 32 k hk, List.getElem?_take_of_lt hk, List.getElem?_eq_getElem (by omega), bitC_at s k h8, ← h1]
      rfl
    · rw [List.getElem?_eq_none (by rw [List.length_take]; omega), List.getElem?_eq_none (by rw [bitsU_length]; omega)]
  apply ByteArray.ext
  apply Array.toList_inj.1
  rw [strOfNums_data, ← e, List.map_take, ← strOfNums_data]
  simp [ByteArray.data_extract]

def mbCode (msg : ByteArray) : Int := if 65530 < msg.size then 2 else 0
def mbOut (msg : ByteArray) : ByteArray := if 65530 < msg.size then ⟨#[]⟩ else mbits msg

set_option maxRecDepth 100000 in
set_option maxHeartbeats 400000 in
theorem implMessageBits_any (msg : ByteArray) (w : World) (hK : KTab w) (hp : 0 < w.heap.size) :
    Calls Tryz.prog 65 #[.string msg] w fun e w' => e = .returned (.tuple #[.string (mbOut msg), .int .i64 (mbCode msg)]) ∧ Below w.heap.size w w' := by
  by_cases hb : 65530 < msg.size
  · have HC : Hid (mbOut msg = ⟨#[]⟩ ∧ mbCode msg = 2) := ⟨if_pos hb, if_pos hb⟩
    have hb' : (65530 : Int) < (msg.size : Int) := by omega
    go_enter Tryz.func65, Tryz.ntmps65
    go_wp2_with fail
    go_ret2
    rw [HC.out.1, HC.out.2]
    exact ⟨rfl, Below.refl _ _⟩
  · have HC : Hid (mbOut msg = mbits msg ∧ mbCode msg = 0) := ⟨if_neg hb, if_neg hb⟩
    have hb' : (msg.size : Int) ≤ 65530 := by omega
    have GK : Hid (KTab w) := hK
    have HE : Hid (cat [bDigest, msg] = bys bDigest ++ bys msg) := by
      show _ = _
      unfold cat
      simp only [List.flatMap_cons, List.flatMap_nil, List.append_nil]
    have HL : Hid ((bys bDigest ++ bys msg).length ≤ 65536) := dig_len msg (by omega)
    have HD : Hid (hashS (bys bDigest ++ bys msg) = dig msg ∧ (dig msg).size = 32) := ⟨rfl, dig_size msg (by omega)⟩
    have HM : Hid (mbits msg = strOfNums (bitsU (dig msg) 32)) := rfl
    clear hK
    go_enter Tryz.func65, Tryz.ntmps65
    go_wp2_with fail
    refine (hashOf_lit w _ 2 rfl _ [bDigest, msg] rfl rfl (by decide) (by decide) (by rw [HE.out]; have := HL.out; omega) GK.out hp).mono ?_
    rintro e w3 ⟨rfl, b3⟩
    rw [HE.out, HD.out.1]
    obtain ⟨d, HDD⟩ : ∃ d, Hid (dig msg = d) := ⟨_, rfl⟩
    rw [HDD.out]
    have HZ : Hid (d.size = 32) := by show _ = _; rw [← HDD.out]; exact HD.out.2
    have HX := cut_bits d HZ.out
    have hsz : (strOfNums (Bt.bitsTo d 32)).size = 256 := by rw [strOfNums_size, Bt.bitsTo_length d 32 (by have := HZ.out; omega)]
    go_wp2_with fail
    refine (Bt.implHashBits_yes d _ HZ.out).mono ?_
    rintro e w4 ⟨rfl, b4⟩
    have b5 := b3.trans (b4.mono b3.size)
    clear b3 b4
    generalize strOfNums (Bt.bitsTo d 32) = q at hsz HX
    have h32 : (32 : Int) ≤ (q.size : Int) := by omega
    go_wp2_with fail
    go_ret2
    rw [HC.out.1, HC.out.2, HM.out, HDD.out, ← HX]
    exact ⟨rfl, b5⟩
end Go.Proofs.YtimmeclclilpdaaGreatDoor.Mb
