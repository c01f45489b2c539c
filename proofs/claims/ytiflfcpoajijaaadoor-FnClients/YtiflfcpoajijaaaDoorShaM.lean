/- SHA-256 in plain words: what both Hash functions reckon. Of no program. -/
import Derived.WalkKit
import Derived.ProofKit
namespace Go.Proofs.YtiflfcpoajijaaaDoor.Sh
open Go.RowKit

/-- A word of 32 bits as the model's number. -/
def nat (x : UInt32) : Int := ((x.toNat : Nat) : Int)
theorem nat_lo (x : UInt32) : 0 ≤ nat x := by unfold nat; omega
theorem nat_hi (x : UInt32) : nat x < 4294967296 := by unfold nat; have := x.toNat_lt; omega
theorem nat_add (x y : UInt32) : (nat x + nat y) % 4294967296 = nat (x + y) := by unfold nat; rw [UInt32.toNat_add]; omega
theorem nat_xor (x y : UInt32) : bits .xor .u32 (nat x) (nat y) = nat (x ^^^ y) := by
  unfold nat; rw [u32_xor_nat _ _ x.toNat_lt y.toNat_lt, UInt32.toNat_xor]
theorem nat_and (x y : UInt32) : bits .and .u32 (nat x) (nat y) = nat (x &&& y) := by
  unfold nat; rw [u32_and_nat _ _ x.toNat_lt y.toNat_lt, UInt32.toNat_and]
theorem nat_or (x y : UInt32) : bits .or .u32 (nat x) (nat y) = nat (x ||| y) := by
  unfold nat; rw [u32_or_nat _ _ x.toNat_lt y.toNat_lt, UInt32.toNat_or]
theorem nat_not (x : UInt32) : bits .xor .u32 IntKind.u32.max (nat x) = nat (~~~x) := by
  have e : IntKind.u32.max = nat (UInt32.ofNat 4294967295) := rfl
  have h : UInt32.ofNat 4294967295 ^^^ x = ~~~x := by
    have e2 : (UInt32.ofNat 4294967295) = ~~~0 := by decide
    rw [e2]
    exact UInt32.neg_one_xor
  rw [e, nat_xor, h]
theorem nat_wrap (x : UInt32) : IntKind.u32.wrap (nat x) = nat x := by
  have h1 := nat_lo x; have h2 := nat_hi x
  rw [IntKind.wrap_u32]; omega
theorem nat_shr (x : UInt32) (k : Nat) (h : k < 32) : nat x / 2 ^ k = nat (x >>> UInt32.ofNat k) := by
  unfold nat
  have e : (UInt32.ofNat k).toNat % 32 = k := by rw [UInt32.toNat_ofNat_of_lt' (by unfold UInt32.size; omega)]; omega
  rw [UInt32.toNat_shiftRight, e, Nat.shiftRight_eq_div_pow]
  norm_cast
theorem nat_shl (x : UInt32) (k : Nat) (h : k < 32) : nat x * 2 ^ k % 4294967296 = nat (x <<< UInt32.ofNat k) := by
  unfold nat
  have e : (UInt32.ofNat k).toNat % 32 = k := by rw [UInt32.toNat_ofNat_of_lt' (by unfold UInt32.size; omega)]; omega
  rw [UInt32.toNat_shiftLeft, e, Nat.shiftLeft_eq, Int.natCast_emod, Int.natCast_mul, Int.natCast_pow]
  rfl

/-- x turned right by n. -/
def rotr (x : UInt32) (n : Nat) : UInt32 := x >>> UInt32.ofNat n ||| x <<< UInt32.ofNat (32 - n)
def up (a : UInt32) : UInt32 := rotr a 2 ^^^ rotr a 13 ^^^ rotr a 22
def low (e : UInt32) : UInt32 := rotr e 6 ^^^ rotr e 11 ^^^ rotr e 25
def s0 (x : UInt32) : UInt32 := rotr x 7 ^^^ rotr x 18 ^^^ x >>> 3
def s1 (x : UInt32) : UInt32 := rotr x 17 ^^^ rotr x 19 ^^^ x >>> 10
def ch (e f g : UInt32) : UInt32 := (e &&& f) ^^^ (~~~e &&& g)
def maj (a b c : UInt32) : UInt32 := (a &&& b) ^^^ (a &&& c) ^^^ (b &&& c)
theorem ch_or (e f g : UInt32) : (e &&& f) ||| (~~~e &&& g) = ch e f g := by
  unfold ch
  apply UInt32.toBitVec_inj.1
  simp only [UInt32.toBitVec_or, UInt32.toBitVec_and, UInt32.toBitVec_not, UInt32.toBitVec_xor]
  apply BitVec.eq_of_getElem_eq
  intro i hi
  simp only [BitVec.getElem_or, BitVec.getElem_and, BitVec.getElem_not, BitVec.getElem_xor]
  cases e.toBitVec[i] <;> cases f.toBitVec[i] <;> cases g.toBitVec[i] <;> rfl
structure R8 where
  a : UInt32
  b : UInt32
  c : UInt32
  d : UInt32
  e : UInt32
  f : UInt32
  g : UInt32
  h : UInt32
/-- One round. -/
def tOf (r : R8) (k w : UInt32) : UInt32 := r.h + low r.e + ch r.e r.f r.g + k + w
def uOf (r : R8) : UInt32 := up r.a + maj r.a r.b r.c
def rnd (r : R8) (k w : UInt32) : R8 := ⟨tOf r k w + uOf r, r.a, r.b, r.c, r.d + tOf r k w, r.e, r.f, r.g⟩
def rndTo (kt wt : Nat → UInt32) (r : R8) : Nat → R8
  | 0 => r
  | n + 1 => rnd (rndTo kt wt r n) (kt n) (wt n)
def addR (x y : R8) : R8 := ⟨x.a + y.a, x.b + y.b, x.c + y.c, x.d + y.d, x.e + y.e, x.f + y.f, x.g + y.g, x.h + y.h⟩
def at8 (r : R8) : Nat → UInt32
  | 0 => r.a
  | 1 => r.b
  | 2 => r.c
  | 3 => r.d
  | 4 => r.e
  | 5 => r.f
  | 6 => r.g
  | _ => r.h
/-- A byte of a list, as a word. -/
def wb (xs : List Int) (i : Nat) : UInt32 := UInt32.ofNat (xs.getD i 0).toNat
def be (xs : List Int) (i : Nat) : UInt32 := wb xs (4 * i) <<< 24 ||| wb xs (4 * i + 1) <<< 16 ||| wb xs (4 * i + 2) <<< 8 ||| wb xs (4 * i + 3)
theorem wb_eq (xs : List Int) (i : Nat) (h0 : 0 ≤ xs.getD i 0) (h1 : xs.getD i 0 ≤ 255) : xs.getD i 0 = nat (wb xs i) := by
  unfold nat wb
  rw [UInt32.toNat_ofNat_of_lt' (by unfold UInt32.size; omega)]
  omega
/-- The words of a block of 64 bytes. -/
def sched (xs : List Int) : Nat → List UInt32
  | 0 => []
  | n + 1 => sched xs n ++ [if n < 16 then be xs n else (sched xs n).getD (n - 16) 0 + s0 ((sched xs n).getD (n - 15) 0) + (sched xs n).getD (n - 7) 0 + s1 ((sched xs n).getD (n - 2) 0)]
theorem sched_length (xs : List Int) : ∀ n, (sched xs n).length = n
  | 0 => rfl
  | n + 1 => by rw [sched, List.length_append, sched_length xs n]; rfl
theorem sched_getD (xs : List Int) (j : Nat) : ∀ n, j < n → (sched xs n).getD j 0 = (sched xs (j + 1)).getD j 0
  | 0, h => by omega
  | n + 1, h => by
    by_cases e : j = n
    · rw [e]
    · rw [← sched_getD xs j n (by omega), sched, List.getD_eq_getElem?_getD, List.getElem?_append_left (by rw [sched_length]; omega), List.getD_eq_getElem?_getD]
/-- Word j. -/
def wt (xs : List Int) (j : Nat) : UInt32 := (sched xs (j + 1)).getD j 0
theorem wt_def (xs : List Int) (j : Nat) : wt xs j = if j < 16 then be xs j else wt xs (j - 16) + s0 (wt xs (j - 15)) + wt xs (j - 7) + s1 (wt xs (j - 2)) := by
  have e : wt xs j = if j < 16 then be xs j else (sched xs j).getD (j - 16) 0 + s0 ((sched xs j).getD (j - 15) 0) + (sched xs j).getD (j - 7) 0 + s1 ((sched xs j).getD (j - 2) 0) := by
    unfold wt
    rw [sched, List.getD_eq_getElem?_getD, List.getElem?_append_right (by rw [sched_length]; omega), sched_length, Nat.sub_self]
    rfl
  rw [e]
  by_cases h : j < 16
  · rw [if_pos h, if_pos h]
  · rw [if_neg h, if_neg h, sched_getD xs (j - 16) j (by omega), sched_getD xs (j - 15) j (by omega), sched_getD xs (j - 7) j (by omega), sched_getD xs (j - 2) j (by omega)]
    rfl
theorem wt_low (xs : List Int) (j : Nat) (h : j < 16) : wt xs j = be xs j := by rw [wt_def, if_pos h]
theorem wt_high (xs : List Int) (j : Nat) (h : ¬ j < 16) : wt xs j = wt xs (j - 16) + s0 (wt xs (j - 15)) + wt xs (j - 7) + s1 (wt xs (j - 2)) := by
  conv => lhs; rw [wt_def, if_neg h]

def kList : List UInt32 := [1116352408, 1899447441, 3049323471, 3921009573, 961987163, 1508970993, 2453635748, 2870763221, 3624381080, 310598401, 607225278, 1426881987, 1925078388, 2162078206, 2614888103, 3248222580, 3835390401, 4022224774, 264347078, 604807628, 770255983, 1249150122, 1555081692, 1996064986, 2554220882, 2821834349, 2952996808, 3210313671, 3336571891, 3584528711, 113926993, 338241895, 666307205, 773529912, 1294757372, 1396182291, 1695183700, 1986661051, 2177026350, 2456956037, 2730485921, 2820302411, 3259730800, 3345764771, 3516065817, 3600352804, 4094571909, 275423344, 430227734, 506948616, 659060556, 883997877, 958139571, 1322822218, 1537002063, 1747873779, 1955562222, 2024104815, 2227730452, 2361852424, 2428436474, 2756734187, 3204031479, 3329325298]
def kt (i : Nat) : UInt32 := kList.getD i 0
def r0 : R8 := ⟨1779033703, 3144134277, 1013904242, 2773480762, 1359893119, 2600822924, 528734635, 1541459225⟩
/-- A block taken in. -/
def blk (r : R8) (xs : List Int) : R8 := addR r (rndTo kt (wt xs) r 64)
/-- The bytes of block q. -/
def cut (ps : List Int) (q : Nat) : List Int := (ps.drop (64 * q)).take 64
def blksTo (ps : List Int) : Nat → R8
  | 0 => r0
  | q + 1 => blk (blksTo ps q) (cut ps q)
/-- Byte m (from the highest) of a word. -/
def byteOf (x : UInt32) (m : Nat) : Int := nat x / 2 ^ (24 - 8 * m) % 256
/-- The bytes of the first k words. -/
def outTo (r : R8) (k : Nat) : List Int := (List.range (4 * k)).map fun j => byteOf (at8 r (j / 4)) (j % 4)
theorem outTo_length (r : R8) (k : Nat) : (outTo r k).length = 4 * k := by simp [outTo]
theorem outTo_at (r : R8) (k j : Nat) (h : j < 4 * k) : (outTo r k).getD j 0 = byteOf (at8 r (j / 4)) (j % 4) := by simp [outTo, List.getD_eq_getElem?_getD, h]
theorem outTo_succ (r : R8) (k : Nat) : outTo r (k + 1) = outTo r k ++ [byteOf (at8 r k) 0, byteOf (at8 r k) 1, byteOf (at8 r k) 2, byteOf (at8 r k) 3] := by
  unfold outTo
  rw [show 4 * (k + 1) = 4 * k + 1 + 1 + 1 + 1 by omega, List.range_succ, List.range_succ, List.range_succ, List.range_succ]
  simp only [List.map_append, List.map_cons, List.map_nil, List.append_assoc, List.cons_append, List.nil_append]
  rw [show 4 * k / 4 = k by omega, show (4 * k + 1) / 4 = k by omega, show (4 * k + 1 + 1) / 4 = k by omega, show (4 * k + 1 + 1 + 1) / 4 = k by omega,
    show 4 * k % 4 = 0 by omega, show (4 * k + 1) % 4 = 1 by omega, show (4 * k + 1 + 1) % 4 = 2 by omega, show (4 * k + 1 + 1 + 1) % 4 = 3 by omega]
def out (r : R8) : List Int := outTo r 8
/-- How many noughts are laid behind 0x80. -/
def zerosOf (n : Nat) : Nat := (119 - n % 64) % 64
def lenByte (n m : Nat) : Int := ((8 * n / 2 ^ (8 * (7 - m)) % 256 : Nat) : Int)
def lenBytes (n : Nat) : List Int := [lenByte n 0, lenByte n 1, lenByte n 2, lenByte n 3, lenByte n 4, lenByte n 5, lenByte n 6, lenByte n 7]
def pad (xs : List Int) : List Int := xs ++ [128] ++ List.replicate (zerosOf xs.length) 0 ++ lenBytes xs.length
theorem pad_length (xs : List Int) : (pad xs).length = xs.length + 9 + zerosOf xs.length := by
  unfold pad lenBytes; simp; omega
theorem pad_blocks (xs : List Int) : (pad xs).length = 64 * ((xs.length + 72) / 64) := by
  rw [pad_length]; unfold zerosOf; omega
def sha (xs : List Int) : List Int := out (blksTo (pad xs) ((xs.length + 72) / 64))
end Go.Proofs.YtiflfcpoajijaaaDoor.Sh
