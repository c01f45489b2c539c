/- Texts put together: ShaM, ShaT, Mem, ShaW, ShaX. -/
import Derived.WalkKit
import Derived.ProofKit
import Derived.Test.YtiflfcpoajijaaaGreatDoorRows
import Derived.WalkSpells
import Derived.Laws.NewBlocks
import Derived.Deep.Draws
import Derived.Laws.Tables
import Derived.Test.YtiflfcpoajijaaaGreatDoorSl
import Derived.BigRegion
import Derived.Deep.QuietTactic
import Derived.BigQuiet
/- SHA-256 in plain words: what both Hash functions reckon. Of no program. -/
namespace Go.Proofs.YtiflfcpoajijaaaGreatDoor.Sh
open Go.RowKit

/-- A word of 32 bits as the model's number. -/
def nat (x : UInt32) : Int := ((x.toNat : Nat) : Int)
theorem nat_lo (x : UInt32) : 0 ≤ nat x := by unfold nat; omega
theorem nat_hi (x : UInt32) : nat x < 4294967296 := by unfold nat; have := x.toNat_lt; omega
theorem nat_add (x y : UInt32) : (nat x + nat y) % 4294967296 = nat (x + y) := by unfold nat; rw [UInt32.toNat_add]; omega
theorem nat_xor (x y : UInt32) : bits .xor .u32 (nat x) (nat y) = nat (x ^^^ y) := by
  unfold nat; rw [u32_xor_nat _ _ x.toNat_lt y.toNat_lt, UInt32.toNat_xor]
theorem nat_and (x y : UInt32) : bits .and .u32 (nat x) (nat y) = nat (x &&& y) := by
  unfold nat; rw [u32_and_nat _ _ x.toNat_lt y.toNat_lt, UInt32.toNat_and]
theorem nat_or (x y : UInt32) : bits .or .u32 (nat x) (nat y) = nat (x ||| y) := by
  unfold nat; rw [u32_or_nat _ _ x.toNat_lt y.toNat_lt, UInt32.toNat_or]
theorem nat_not (x : UInt32) : bits .xor .u32 IntKind.u32.max (nat x) = nat (~~~x) := by
  have e : IntKind.u32.max = nat (UInt32.ofNat 4294967295) := rfl
  have h : UInt32.ofNat 4294967295 ^^^ x = ~~~x := by
    have e2 : (UInt32.ofNat 4294967295) = ~~~0 := by decide
    rw [e2]
    exact UInt32.neg_one_xor
  rw [e, nat_xor, h]
theorem nat_wrap (x : UInt32) : IntKind.u32.wrap (nat x) = nat x := by
  have h1 := nat_lo x; have h2 := nat_hi x
  rw [IntKind.wrap_u32]; omega
theorem nat_shr (x : UInt32) (k : Nat) (h : k < 32) : nat x / 2 ^ k = nat (x >>> UInt32.ofNat k) := by
  unfold nat
  have e : (UInt32.ofNat k).toNat % 32 = k := by rw [UInt32.toNat_ofNat_of_lt' (by unfold UInt32.size; omega)]; omega
  rw [UInt32.toNat_shiftRight, e, Nat.shiftRight_eq_div_pow]
  norm_cast
theorem nat_shl (x : UInt32) (k : Nat) (h : k < 32) : nat x * 2 ^ k % 4294967296 = nat (x <<< UInt32.ofNat k) := by
  unfold nat
  have e : (UInt32.ofNat k).toNat % 32 = k := by rw [UInt32.toNat_ofNat_of_lt' (by unfold UInt32.size; omega)]; omega
  rw [UInt32.toNat_shiftLeft, e, Nat.shiftLeft_eq, Int.natCast_emod, Int.natCast_mul, Int.natCast_pow]
  rfl

/-- x turned right by n. -/
def rotr (x : UInt32) (n : Nat) : UInt32 := x >>> UInt32.ofNat n ||| x <<< UInt32.ofNat (32 - n)
def up (a : UInt32) : UInt32 := rotr a 2 ^^^ rotr a 13 ^^^ rotr a 22
def low (e : UInt32) : UInt32 := rotr e 6 ^^^ rotr e 11 ^^^ rotr e 25
def s0 (x : UInt32) : UInt32 := rotr x 7 ^^^ rotr x 18 ^^^ x >>> 3
def s1 (x : UInt32) : UInt32 := rotr x 17 ^^^ rotr x 19 ^^^ x >>> 10
def ch (e f g : UInt32) : UInt32 := (e &&& f) ^^^ (~~~e &&& g)
def maj (a b c : UInt32) : UInt32 := (a &&& b) ^^^ (a &&& c) ^^^ (b &&& c)
theorem ch_or (e f g : UInt32) : (e &&& f) ||| (~~~e &&& g) = ch e f g := by
  unfold ch
  apply UInt32.toBitVec_inj.1
  simp only [UInt32.toBitVec_or, UInt32.toBitVec_and, UInt32.toBitVec_not, UInt32.toBitVec_xor]
  apply BitVec.eq_of_getElem_eq
  intro i hi
  simp only [BitVec.getElem_or, BitVec.getElem_and, BitVec.getElem_not, BitVec.getElem_xor]
  cases e.toBitVec[i] <;> cases f.toBitVec[i] <;> cases g.toBitVec[i] <;> rfl
structure R8 where
  a : UInt32
  b : UInt32
  c : UInt32
  d : UInt32
  e : UInt32
  f : UInt32
  g : UInt32
  h : UInt32
/-- One round. -/
def tOf (r : R8) (k w : UInt32) : UInt32 := r.h + low r.e + ch r.e r.f r.g + k + w
def uOf (r : R8) : UInt32 := up r.a + maj r.a r.b r.c
def rnd (r : R8) (k w : UInt32) : R8 := ⟨tOf r k w + uOf r, r.a, r.b, r.c, r.d + tOf r k w, r.e, r.f, r.g⟩
def rndTo (kt wt : Nat → UInt32) (r : R8) : Nat → R8
  | 0 => r
  | n + 1 => rnd (rndTo kt wt r n) (kt n) (wt n)
def addR (x y : R8) : R8 := ⟨x.a + y.a, x.b + y.b, x.c + y.c, x.d + y.d, x.e + y.e, x.f + y.f, x.g + y.g, x.h + y.h⟩
def at8 (r : R8) : Nat → UInt32
  | 0 => r.a
  | 1 => r.b
  | 2 => r.c
  | 3 => r.d
  | 4 => r.e
  | 5 => r.f
  | 6 => r.g
  | _ => r.h
/-- A byte of a list, as a word. -/
def wb (xs : List Int) (i : Nat) : UInt32 := UInt32.ofNat (xs.getD i 0).toNat
def be (xs : List Int) (i : Nat) : UInt32 := wb xs (4 * i) <<< 24 ||| wb xs (4 * i + 1) <<< 16 ||| wb xs (4 * i + 2) <<< 8 ||| wb xs (4 * i + 3)
theorem wb_eq (xs : List Int) (i : Nat) (h0 : 0 ≤ xs.getD i 0) (h1 : xs.getD i 0 ≤ 255) : xs.getD i 0 = nat (wb xs i) := by
  unfold nat wb
  rw [UInt32.toNat_ofNat_of_lt' (by unfold UInt32.size; omega)]
  omega
/-- The words of a block of 64 bytes. -/
def sched (xs : List Int) : Nat → List UInt32
  | 0 => []
  | n + 1 => sched xs n ++ [if n < 16 then be xs n else (sched xs n).getD (n - 16) 0 + s0 ((sched xs n).getD (n - 15) 0) + (sched xs n).getD (n - 7) 0 + s1 ((sched xs n).getD (n - 2) 0)]
theorem sched_length (xs : List Int) : ∀ n, (sched xs n).length = n
  | 0 => rfl
  | n + 1 => by rw [sched, List.length_append, sched_length xs n]; rfl
theorem sched_getD (xs : List Int) (j : Nat) : ∀ n, j < n → (sched xs n).getD j 0 = (sched xs (j + 1)).getD j 0
  | 0, h => by omega
  | n + 1, h => by
    by_cases e : j = n
    · rw [e]
    · rw [← sched_getD xs j n (by omega), sched, List.getD_eq_getElem?_getD, List.getElem?_append_left (by rw [sched_length]; omega), List.getD_eq_getElem?_getD]
/-- Word j. -/
def wt (xs : List Int) (j : Nat) : UInt32 := (sched xs (j + 1)).getD j 0
theorem wt_def (xs : List Int) (j : Nat) : wt xs j = if j < 16 then be xs j else wt xs (j - 16) + s0 (wt xs (j - 15)) + wt xs (j - 7) + s1 (wt xs (j - 2)) := by
  have e : wt xs j = if j < 16 then be xs j else (sched xs j).getD (j - 16) 0 + s0 ((sched xs j).getD (j - 15) 0) + (sched xs j).getD (j - 7) 0 + s1 ((sched xs j).getD (j - 2) 0) := by
    unfold wt
    rw [sched, List.getD_eq_getElem?_getD, List.getElem?_append_right (by rw [sched_length]; omega), sched_length, Nat.sub_self]
    rfl
  rw [e]
  by_cases h : j < 16
  · rw [if_pos h, if_pos h]
  · rw [if_neg h, if_neg h, sched_getD xs (j - 16) j (by omega), sched_getD xs (j - 15) j (by omega), sched_getD xs (j - 7) j (by omega), sched_getD xs (j - 2) j (by omega)]
    rfl
theorem wt_low (xs : List Int) (j : Nat) (h : j < 16) : wt xs j = be xs j := by rw [wt_def, if_pos h]
theorem wt_high (xs : List Int) (j : Nat) (h : ¬ j < 16) : wt xs j = wt xs (j - 16) + s0 (wt xs (j - 15)) + wt xs (j - 7) + s1 (wt xs (j - 2)) := by
  conv => lhs; rw [wt_def, if_neg h]

def kList : List UInt32 := [1116352408, 1899447441, 3049323471, 3921009573, 961987163, 1508970993, 2453635748, 2870763221, 3624381080, 310598401, 607225278, 1426881987, 1925078388, 2162078206, 2614888103, 3248222580, 3835390401, 4022224774, 264347078, 604807628, 770255983, 1249150122, 1555081692, 1996064986, 2554220882, 2821834349, 2952996808, 3210313671, 3336571891, 3584528711, 113926993, 338241895, 666307205, 773529912, 1294757372, 1396182291, 1695183700, 1986661051, 2177026350, 2456956037, 2730485921, 2820302411, 3259730800, 3345764771, 3516065817, 3600352804, 4094571909, 275423344, 430227734, 506948616, 659060556, 883997877, 958139571, 1322822218, 1537002063, 1747873779, 1955562222, 2024104815, 2227730452, 2361852424, 2428436474, 2756734187, 3204031479, 3329325298]
def kt (i : Nat) : UInt32 := kList.getD i 0
def r0 : R8 := ⟨1779033703, 3144134277, 1013904242, 2773480762, 1359893119, 2600822924, 528734635, 1541459225⟩
/-- A block taken in. -/
def blk (r : R8) (xs : List Int) : R8 := addR r (rndTo kt (wt xs) r 64)
/-- The bytes of block q. -/
def cut (ps : List Int) (q : Nat) : List Int := (ps.drop (64 * q)).take 64
def blksTo (ps : List Int) : Nat → R8
  | 0 => r0
  | q + 1 => blk (blksTo ps q) (cut ps q)
/-- Byte m (from the highest) of a word. -/
def byteOf (x : UInt32) (m : Nat) : Int := nat x / 2 ^ (24 - 8 * m) % 256
/-- The bytes of the first k words. -/
def outTo (r : R8) (k : Nat) : List Int := (List.range (4 * k)).map fun j => byteOf (at8 r (j / 4)) (j % 4)
theorem outTo_length (r : R8) (k : Nat) : (outTo r k).length = 4 * k := by simp [outTo]
theorem outTo_at (r : R8) (k j : Nat) (h : j < 4 * k) : (outTo r k).getD j 0 = byteOf (at8 r (j / 4)) (j % 4) := by simp [outTo, List.getD_eq_getElem?_getD, h]
theorem outTo_succ (r : R8) (k : Nat) : outTo r (k + 1) = outTo r k ++ [byteOf (at8 r k) 0, byteOf (at8 r k) 1, byteOf (at8 r k) 2, byteOf (at8 r k) 3] := by
  unfold outTo
  rw [show 4 * (k + 1) = 4 * k + 1 + 1 + 1 + 1 by omega, List.range_succ, List.range_succ, List.range_succ, List.range_succ]
  simp only [List.map_append, List.map_cons, List.map_nil, List.append_assoc, List.cons_append, List.nil_append]
  rw [show 4 * k / 4 = k by omega, show (4 * k + 1) / 4 = k by omega, show (4 * k + 1 + 1) / 4 = k by omega, show (4 * k + 1 + 1 + 1) / 4 = k by omega,
    show 4 * k % 4 = 0 by omega, show (4 * k + 1) % 4 = 1 by omega, show (4 * k + 1 + 1) % 4 = 2 by omega, show (4 * k + 1 + 1 + 1) % 4 = 3 by omega]
def out (r : R8) : List Int := outTo r 8
/-- How many noughts are laid behind 0x80. -/
def zerosOf (n : Nat) : Nat := (119 - n % 64) % 64
def lenByte (n m : Nat) : Int := ((8 * n / 2 ^ (8 * (7 - m)) % 256 : Nat) : Int)
def lenBytes (n : Nat) : List Int := [lenByte n 0, lenByte n 1, lenByte n 2, lenByte n 3, lenByte n 4, lenByte n 5, lenByte n 6, lenByte n 7]
def pad (xs : List Int) : List Int := xs ++ [128] ++ List.replicate (zerosOf xs.length) 0 ++ lenBytes xs.length
theorem pad_length (xs : List Int) : (pad xs).length = xs.length + 9 + zerosOf xs.length := by
  unfold pad lenBytes; simp; omega
theorem pad_blocks (xs : List Int) : (pad xs).length = 64 * ((xs.length + 72) / 64) := by
  rw [pad_length]; unfold zerosOf; omega
def sha (xs : List Int) : List Int := out (blksTo (pad xs) ((xs.length + 72) / 64))
end Go.Proofs.YtiflfcpoajijaaaGreatDoor.Sh

/- Words turned: what the leaves of both Hash functions answer. -/
namespace Go.Proofs.YtiflfcpoajijaaaGreatDoor.Sh
open Go.RowKit

theorem ret_u32 {a b : Int} (h : a = b) : Ending.returned (.int .u32 a) = .returned (.int .u32 b) := by rw [h]
theorem nat_or_comm (x y : UInt32) : nat (x ||| y) = nat (y ||| x) := by rw [UInt32.or_comm]

theorem turn_eq (x : UInt32) (n : Int) (h0 : 0 < n) (h1 : n < 32) : bits BinOp.or IntKind.u32 (nat x / 2 ^ n.toNat) (nat x * 2 ^ (32 - n).toNat % 4294967296) = nat (rotr x n.toNat) := by
  rw [nat_shr x _ (by omega), nat_shl x _ (by omega), nat_or, show (32 - n).toNat = 32 - n.toNat by omega]
  rfl
theorem turn_eq2 (x : UInt32) (n : Int) (h0 : 0 < n) (h1 : n < 32) : bits BinOp.or IntKind.u32 (nat x * 2 ^ (32 - n).toNat % 4294967296) (nat x / 2 ^ (32 - (32 - n)).toNat) = nat (rotr x n.toNat) := by
  rw [nat_shl x _ (by omega), nat_shr x _ (by omega), nat_or, show (32 - n).toNat = 32 - n.toNat by omega, show (32 - (32 - n)).toNat = n.toNat by omega, UInt32.or_comm]
  rfl
theorem l01Turn_any (x : UInt32) (n : Int) (w : World) (h0 : 0 < n) (h1 : n < 32) :
    Calls Tryz.prog 122 #[.int .u32 (nat x), .int .u64 n] w fun e w' => e = .returned (.int .u32 (nat (rotr x n.toNat))) ∧ w' = w := by
  go_enter Tryz.func122, Tryz.ntmps122
  go_wp2
  go_ret
  exact ⟨ret_u32 (turn_eq x n h0 h1), rfl⟩

theorem mask31 (n : Int) (h0 : 0 < n) (h1 : n < 32) : bits .and .u64 (IntKind.u64.wrap (-n)) 31 = 32 - n := by
  have e : (-n) % 18446744073709551616 = 18446744073709551616 - n := by omega
  rw [IntKind.wrap_u64, e, u64_and _ _ (by omega) (by omega) (by decide) (by decide)]
  have e2 : (31 : Int).toNat = 2 ^ 5 - 1 := rfl
  rw [e2, Nat.and_two_pow_sub_one_eq_mod]
  omega
theorem turnRight_any (x : UInt32) (n : Int) (w : World) (h0 : 0 < n) (h1 : n < 32) :
    Calls Tryz.prog 119 #[.int .u32 (nat x), .int .i64 n] w fun e w' => e = .returned (.int .u32 (nat (rotr x n.toNat))) ∧ w' = w := by
  have hm := mask31 n h0 h1
  go_enter Tryz.func119, Tryz.ntmps119
  go_wp2
  go_ret
  exact ⟨ret_u32 (turn_eq2 x n h0 h1), rfl⟩

theorem mixLower_any (x : UInt32) (w : World) :
    Calls Tryz.prog 117 #[.int .u32 (nat x)] w fun e w' => e = .returned (.int .u32 (nat (low x))) ∧ w' = w := by
  have hx := nat_xor
  go_enter Tryz.func117, Tryz.ntmps117
  go_wp2_with (go_at_call 119; refine (turnRight_any _ _ _ (by decide) (by decide)).mono ?_; rintro e w' ⟨rfl, rfl⟩)
  go_ret
  exact ⟨rfl, rfl⟩
theorem mixUpper_any (x : UInt32) (w : World) :
    Calls Tryz.prog 118 #[.int .u32 (nat x)] w fun e w' => e = .returned (.int .u32 (nat (up x))) ∧ w' = w := by
  have hx := nat_xor
  go_enter Tryz.func118, Tryz.ntmps118
  go_wp2_with (go_at_call 119; refine (turnRight_any _ _ _ (by decide) (by decide)).mono ?_; rintro e w' ⟨rfl, rfl⟩)
  go_ret
  exact ⟨rfl, rfl⟩
end Go.Proofs.YtiflfcpoajijaaaGreatDoor.Sh

/- A block of cells that the call made, known whole: what stores, draws and new blocks leave of it. Of no program. -/
namespace Go.Proofs.YtiflfcpoajijaaaGreatDoor.Me
open Go.RowKit

/-- Block g holds the cells A (type T), none of them frozen. -/
def ArrAt (w : World) (g : Nat) (T : TypeId) (A : Array Value) : Prop := w.heap[g]? = some (.cells A T (0, 0))
theorem ArrAt.lt {w : World} {g : Nat} {T : TypeId} {A : Array Value} (h : ArrAt w g T A) : g < w.heap.size := (Array.getElem?_eq_some_iff.1 h).1
theorem ArrAt.cell {w : World} {g : Nat} {T : TypeId} {A : Array Value} (h : ArrAt w g T A) (j : Nat) : w.cell? ⟨g, j, none⟩ = A[j]? := by
  unfold ArrAt at h; simp [World.cell?, h]
theorem ArrAt.frozen {w : World} {g : Nat} {T : TypeId} {A : Array Value} (h : ArrAt w g T A) (j : Nat) : w.frozen? ⟨g, j, none⟩ = false := by
  unfold ArrAt at h; simp [World.frozen?, h]
theorem ArrAt.drew {w : World} {g : Nat} {T : TypeId} {A : Array Value} (h : ArrAt w g T A) : ArrAt w.drew g T A := h
theorem ArrAt.drewN {w : World} {g : Nat} {T : TypeId} {A : Array Value} (h : ArrAt w g T A) (n : Nat) : ArrAt (w.drewN n) g T A := h
theorem ArrAt.alloc {w : World} {g : Nat} {T : TypeId} {A : Array Value} (h : ArrAt w g T A) (o : Obj) : ArrAt (w.alloc o) g T A := by
  unfold ArrAt at h ⊢; exact (heap_alloc_old w o (ArrAt.lt h)).trans h
theorem arrAt_new (w : World) (T : TypeId) (A : Array Value) : ArrAt (w.alloc (.cells A T)) w.heap.size T A := heap_alloc_new w _
theorem ArrAt.below {w w' : World} {B g : Nat} {T : TypeId} {A : Array Value} (h : ArrAt w g T A) (hb : Below B w w') (hg : g < B) : ArrAt w' g T A := (hb.block g hg).trans h
theorem ArrAt.setCell_other {w : World} {g : Nat} {T : TypeId} {A : Array Value} (h : ArrAt w g T A) {a : Addr} (hne : g ≠ a.block) (v : Value) : ArrAt (w.setCell a v) g T A := (Below.heap_setCell w a v g hne).trans h
theorem ArrAt.setCell_same {w : World} {g : Nat} {T : TypeId} {A : Array Value} (h : ArrAt w g T A) (j : Nat) (v : Value) : ArrAt (w.setCell ⟨g, j, none⟩ v) g T (A.setIfInBounds j v) := by
  have hl := ArrAt.lt h
  unfold ArrAt at h ⊢
  have h' : w.heap[g] = .cells A T (0, 0) := (Array.getElem?_eq_some_iff.1 h).2
  simp [World.setCell, hl, Array.getElem_modify, h']
theorem ArrAt.setRow_same {w : World} {g : Nat} {T : TypeId} {A : Array Value} (h : ArrAt w g T A) (C : Array Value) : ArrAt (w.setRow g C) g T C := setRow_heap w g A C T (0, 0) h
theorem ArrAt.setRow_other {w : World} {g g' : Nat} {T : TypeId} {A : Array Value} (h : ArrAt w g T A) (hne : g ≠ g') (C : Array Value) : ArrAt (w.setRow g' C) g T A := (Go.setRow_other w g' g C hne).trans h
theorem below_setRow {w w' : World} {B g : Nat} (hb : Below B w w') (hg : B ≤ g) (C : Array Value) : Below B w (w'.setRow g C) :=
  hb.trans ⟨rfl, rfl, rfl, by simp, fun k hk => Go.setRow_other w' g k C (by omega)⟩
theorem below_drewN {w w' : World} {B : Nat} (hb : Below B w w') (n : Nat) : Below B w (w'.drewN n) := hb.trans ⟨rfl, rfl, rfl, Nat.le_refl _, fun _ _ => rfl⟩
end Go.Proofs.YtiflfcpoajijaaaGreatDoor.Me

/- impl.spreadBlock: the 64 words of a block. -/
namespace Go.Proofs.YtiflfcpoajijaaaGreatDoor.Sh
open Go.RowKit Go.Proofs.YtiflfcpoajijaaaGreatDoor.Sl Go.Proofs.YtiflfcpoajijaaaGreatDoor.Me

theorem nth_nat {xs : List Int} (hr : ∀ x ∈ xs, 0 ≤ x ∧ x ≤ 255) (i : Nat) : nth xs i = nat (wb xs i) :=
  wb_eq xs i (range_at hr i).1 (range_at hr i).2
def zeros : Array Value := Array.replicate 64 (.int .u32 0)
theorem zeros_size : zeros.size = 64 := by unfold zeros; simp
theorem zeroW (w : World) : Sem.run Tryz.prog (zeroValue 119) w = .ok (.agg zeros) w := by kernel_rfl
/-- The first k words are laid. -/
def WordsTo (xs : List Int) (k : Nat) (A : Array Value) : Prop := A.size = 64 ∧ ∀ j, j < k → A[j]? = some (.int .u32 (nat (wt xs j)))
theorem words_step {xs : List Int} {k : Nat} {A : Array Value} (h : WordsTo xs k A) (hk : k < 64) : WordsTo xs (k + 1) (A.setIfInBounds k (.int .u32 (nat (wt xs k)))) := by
  refine ⟨by rw [Array.size_setIfInBounds]; exact h.1, fun j hj => ?_⟩
  rw [Array.getElem?_setIfInBounds]
  by_cases e : k = j
  · subst e
    rw [if_pos rfl, if_pos (by rw [h.1]; exact hk)]
  · rw [if_neg e]
    exact h.2 j (by omega)
theorem words_get {xs : List Int} {k : Nat} {A : Array Value} (h : WordsTo xs k A) (hk : k < 64) : ∃ x, A[k]? = some x := ⟨_, Array.getElem?_eq_getElem (by rw [h.1]; exact hk)⟩

theorem infoW : (Tryz.prog.info? 119).map (·.size) = some 64 := by kernel_rfl
theorem words_one {xs : List Int} {A : Array Value} (h : WordsTo xs 64 A) : A.all (·.oneCell') = true := by
  rw [Array.all_eq_true]
  intro i hi
  have h2 := h.2 i (by rw [← h.1]; exact hi)
  rw [Array.getElem?_eq_getElem hi] at h2
  rw [Option.some.inj h2]
  rfl

set_option maxRecDepth 100000 in
set_option maxHeartbeats 1600000 in
theorem spreadBlock_any (v : Value) (xs : List Int) (w : World) (h : RowB w v xs) (hl : xs.length = 64) :
    Calls Tryz.prog 98 #[v] w fun e w' => ∃ A, e = .returned (.agg A) ∧ WordsTo xs 64 A ∧ Below w.heap.size w w' := by
  obtain ⟨a, cap, rfl, h, hr⟩ := h
  rcases h with h | ⟨b, off, rfl, hc, hb, hcell⟩
  · rw [h] at hl; exact absurd hl (by decide)
  have hz := zeroW w
  have hz2 := zeroW (w.alloc (.cells zeros 119))
  have hl0 : (xs.length : Int) ≤ 64 := by omega
  have hl1 : (64 : Int) ≤ (xs.length : Int) := by omega
  have HL : Hid (xs.length = 64) := hl
  clear hl
  go_enter Tryz.func98, Tryz.ntmps98
  go_wp2_with fail
  clear hz hz2
  go_loopw [8] (fun i wr => ∃ k : Nat, ∃ A : Array Value, k ≤ 16 ∧ i = .int .i64 k ∧ Below w.heap.size w wr ∧ ArrAt wr (w.heap.size + 1) 119 A ∧ WordsTo xs k A ∧ ArrAt wr w.heap.size 119 zeros) (fun i _ => 16 - (intOf i).toNat)
  case atStart => exact ⟨0, zeros, by omega, rfl, ((Below.refl _ _).alloc (Nat.le_refl _) _).alloc (by simp) _, by have := arrAt_new (w.alloc (.cells zeros 119)) 119 zeros; simpa using this, ⟨zeros_size, fun j hj => absurd hj (by omega)⟩, (arrAt_new w _ _).alloc _⟩
  case round =>
    obtain ⟨k, A, hk, rfl, hbel, hA, hW, hZ⟩ := hrel
    by_cases hlt : k < 16
    · obtain ⟨x, hx⟩ := words_get hW (show k < 64 by omega)
      have c0 : wr.cell? ⟨b, off + (4 * k), none⟩ = some (.int .u8 (nat (wb xs (4 * k)))) := by rw [hbel.cell (p := ⟨b, off + (4 * k), none⟩) hb, hcell _ (by have := HL.out; omega), nth_nat hr]
      have c1 : wr.cell? ⟨b, off + (4 * k + 1), none⟩ = some (.int .u8 (nat (wb xs (4 * k + 1)))) := by rw [hbel.cell (p := ⟨b, off + (4 * k + 1), none⟩) hb, hcell _ (by have := HL.out; omega), nth_nat hr]
      have c2 : wr.cell? ⟨b, off + (4 * k + 2), none⟩ = some (.int .u8 (nat (wb xs (4 * k + 2)))) := by rw [hbel.cell (p := ⟨b, off + (4 * k + 2), none⟩) hb, hcell _ (by have := HL.out; omega), nth_nat hr]
      have c3 : wr.cell? ⟨b, off + (4 * k + 3), none⟩ = some (.int .u8 (nat (wb xs (4 * k + 3)))) := by rw [hbel.cell (p := ⟨b, off + (4 * k + 3), none⟩) hb, hcell _ (by have := HL.out; omega), nth_nat hr]
      have hcA : wr.cell? ⟨w.heap.size + 1, k, none⟩ = some x := (hA.cell k).trans hx
      have hfA := hA.frozen k
      have q0 : (0 : Int) ≤ (k : Int) := by omega
      have q1 : (k : Int) < 16 := by omega
      have hwr := nat_wrap
      have hor := nat_or
      have hs24 : ∀ y : UInt32, nat y * (16777216 : Int) % (4294967296 : Int) = nat (y <<< 24) := fun y => nat_shl y 24 (by decide)
      have hs16 : ∀ y : UInt32, nat y * (65536 : Int) % (4294967296 : Int) = nat (y <<< 16) := fun y => nat_shl y 16 (by decide)
      have hs8 : ∀ y : UInt32, nat y * (256 : Int) % (4294967296 : Int) = nat (y <<< 8) := fun y => nat_shl y 8 (by decide)
      clear hcell
      have hA2 := (hA.setCell_same k (.int .u32 (nat (be xs k)))).drew
      have hZ2 := (hZ.setCell_other (a := ⟨w.heap.size + 1, k, none⟩) (by simp) (.int .u32 (nat (be xs k)))).drew
      have hW2 := words_step hW (show k < 64 by omega)
      rw [wt_low xs k hlt] at hW2
      have hb2 := (hbel.setCell (p := ⟨w.heap.size + 1, k, none⟩) (by simp) (.int .u32 (nat (be xs k)))).drew
      go_wp2_with fail
      go_region
      clear hwr hor hs24 hs16 hs8
      go_wp2
      go_roundw
      case rel => exact ⟨k + 1, _, by omega, by go_num, hb2, hA2, hW2, hZ2⟩
      case measure => simp [intOf]; omega
    · obtain rfl : k = 16 := by omega
      clear hcell
      go_wp2_with fail
      go_loopw [5] (fun i wr => ∃ k : Nat, ∃ A : Array Value, 16 ≤ k ∧ k ≤ 64 ∧ i = .int .i64 k ∧ Below w.heap.size w wr ∧ ArrAt wr (w.heap.size + 1) 119 A ∧ WordsTo xs k A ∧ ArrAt wr w.heap.size 119 zeros) (fun i _ => 64 - (intOf i).toNat)
      case atStart => exact ⟨16, A, by omega, by omega, rfl, hbel, hA, hW, hZ⟩
      case round =>
        clear hbel hA hW hZ
        obtain ⟨k, A, hk16, hk, rfl, hbel, hA, hW, hZ⟩ := hrel
        by_cases hlt : k < 64
        · obtain ⟨x, hx⟩ := words_get hW hlt
          have c15 : wr.cell? ⟨w.heap.size + 1, k - 15, none⟩ = some (.int .u32 (nat (wt xs (k - 15)))) := (hA.cell _).trans (hW.2 _ (by omega))
          have q0 : (16 : Int) ≤ (k : Int) := by omega
          have q1 : (k : Int) < 64 := by omega
          have hxr := nat_xor
          have hs3 : ∀ y : UInt32, nat y / (8 : Int) = nat (y >>> 3) := fun y => nat_shr y 3 (by decide)
          have hs10 : ∀ y : UInt32, nat y / (1024 : Int) = nat (y >>> 10) := fun y => nat_shr y 10 (by decide)
          go_wp2_with fail
          go_quiet ((go_at_call 119; exact Calls.quiet_of_same (turnRight_any _ _ _ (by decide) (by decide))))
          have hbq : Below w.heap.size w (wr.drewN nq) := hbel.trans ⟨rfl, rfl, rfl, Nat.le_refl _, fun _ _ => rfl⟩
          have hAq := hA.drewN nq
          have hZq := hZ.drewN nq
          clear c15 hbel hA hZ
          generalize wr.drewN nq = wq at hbq hAq hZq ⊢
          have c2 : wq.cell? ⟨w.heap.size + 1, k - 2, none⟩ = some (.int .u32 (nat (wt xs (k - 2)))) := (hAq.cell _).trans (hW.2 _ (by omega))
          go_wp2_with fail
          go_quiet ((go_at_call 119; exact Calls.quiet_of_same (turnRight_any _ _ _ (by decide) (by decide))))
          have hbp : Below w.heap.size w (wq.drewN nq) := hbq.trans ⟨rfl, rfl, rfl, Nat.le_refl _, fun _ _ => rfl⟩
          have hAp := hAq.drewN nq
          have hZp := hZq.drewN nq
          clear c2 hbq hAq hZq hxr hs3 hs10
          generalize wq.drewN nq = wp at hbp hAp hZp ⊢
          have c16 : wp.cell? ⟨w.heap.size + 1, k - 16, none⟩ = some (.int .u32 (nat (wt xs (k - 16)))) := (hAp.cell _).trans (hW.2 _ (by omega))
          have c7 : wp.cell? ⟨w.heap.size + 1, k - 7, none⟩ = some (.int .u32 (nat (wt xs (k - 7)))) := (hAp.cell _).trans (hW.2 _ (by omega))
          have hcA : wp.cell? ⟨w.heap.size + 1, k, none⟩ = some x := (hAp.cell k).trans hx
          have hfA := hAp.frozen k
          have had := nat_add
          have HX : Hid (wt xs k = wt xs (k - 16) + s0 (wt xs (k - 15)) + wt xs (k - 7) + s1 (wt xs (k - 2))) := wt_high xs k (by omega)
          have hA2 := (hAp.setCell_same k (.int .u32 (nat (wt xs (k - 16) + s0 (wt xs (k - 15)) + wt xs (k - 7) + s1 (wt xs (k - 2)))))).drew
          have hZ2 := (hZp.setCell_other (a := ⟨w.heap.size + 1, k, none⟩) (by simp) (.int .u32 (nat (wt xs (k - 16) + s0 (wt xs (k - 15)) + wt xs (k - 7) + s1 (wt xs (k - 2)))))).drew
          have hb2 := (hbp.setCell (p := ⟨w.heap.size + 1, k, none⟩) (by simp) (.int .u32 (nat (wt xs (k - 16) + s0 (wt xs (k - 15)) + wt xs (k - 7) + s1 (wt xs (k - 2)))))).drew
          have hW2 := words_step hW hlt
          rw [HX.out] at hW2
          go_wp2_with fail
          go_region
          clear had
          go_wp2
          go_roundw
          case rel => exact ⟨k + 1, _, by omega, by omega, by go_num, hb2, hA2, hW2, hZ2⟩
          case measure => simp [intOf]; omega
        · obtain rfl : k = 64 := by omega
          have hi : (Tryz.prog.info? 119).map (·.size) = some A.size := by rw [hW.1]; exact infoW
          have h1 := words_one hW
          have hi' : Hid _ := hi
          go_wp2_with (first | (refine wpList_load_row (by rfl) 119 _ (by rfl) (w.heap.size + 1) (by rfl) 119 A (0, 0) _ hA Tryz.underlying119 rfl hi'.out ?_) | (refine wpList_store_row (by rfl) 119 _ _ (by rfl) w.heap.size A (by rfl) (by rfl) 119 zeros hZ hi'.out (by rw [hW.1, zeros_size]) h1 ?_))
          exact bodyPost_ret (v := .agg A) (results_cell_row Tryz.results98 _ _ w.heap.size 119 A (0, 0) _ (by rfl) (hZ.setRow_same A) Tryz.underlying119 rfl hi'.out) (by rfl) ⟨A, rfl, hW, below_setRow hbel (Nat.le_refl _) A⟩
end Go.Proofs.YtiflfcpoajijaaaGreatDoor.Sh

/- impl.mixBlock: a block taken into the registers. -/
namespace Go.Proofs.YtiflfcpoajijaaaGreatDoor.Sh
open Go.RowKit Go.Proofs.YtiflfcpoajijaaaGreatDoor.Sl Go.Proofs.YtiflfcpoajijaaaGreatDoor.Me

def arr8 (r : R8) : Array Value := #[.int .u32 (nat r.a), .int .u32 (nat r.b), .int .u32 (nat r.c), .int .u32 (nat r.d), .int .u32 (nat r.e), .int .u32 (nat r.f), .int .u32 (nat r.g), .int .u32 (nat r.h)]
/-- The table of round words, as the walks ask it. -/
def KTab (w : World) : Prop := ∀ i, i < 64 → w.cell? ⟨0, i, none⟩ = some (.int .u32 (nat (kt i)))
theorem KTab.below {w w' : World} {B : Nat} (h : KTab w) (hb : Below B w w') (hB : 0 < B) : KTab w' := fun i hi => (hb.cell (p := ⟨0, i, none⟩) hB).trans (h i hi)
def z8 : Array Value := Array.replicate 8 (.int .u32 0)
theorem zero8 (w : World) : Sem.run Tryz.prog (zeroValue 116) w = .ok (.agg z8) w := by kernel_rfl
theorem info8 : (Tryz.prog.info? 116).map (·.size) = some 8 := by kernel_rfl

theorem arr8_one (r : R8) : (arr8 r).all (·.oneCell') = true := by simp [arr8, Value.oneCell']
theorem arr8_at (r : R8) (j : Nat) (h : j < 8) : (arr8 r)[j]? = some (.int .u32 (nat (at8 r j))) := by
  match j, h with
  | 0, _ => rfl
  | 1, _ => rfl
  | 2, _ => rfl
  | 3, _ => rfl
  | 4, _ => rfl
  | 5, _ => rfl
  | 6, _ => rfl
  | 7, _ => rfl
theorem at8_add (x y : R8) (j : Nat) (h : j < 8) : at8 x j + at8 y j = at8 (addR x y) j := by
  match j, h with
  | 0, _ => rfl
  | 1, _ => rfl
  | 2, _ => rfl
  | 3, _ => rfl
  | 4, _ => rfl
  | 5, _ => rfl
  | 6, _ => rfl
  | 7, _ => rfl
theorem arr8_size (r : R8) : (arr8 r).size = 8 := rfl
/-- The first k of the eight words are summed up. -/
def SumTo (x y : R8) (k : Nat) (W : Array Value) : Prop := W.size = 8 ∧ ∀ j, j < 8 → W[j]? = some (.int .u32 (nat (if j < k then at8 (addR x y) j else at8 x j)))
theorem sum_zero (x y : R8) : SumTo x y 0 (arr8 x) := ⟨rfl, fun j hj => by rw [if_neg (by omega)]; exact arr8_at x j hj⟩
theorem sum_step {x y : R8} {k : Nat} {W : Array Value} (h : SumTo x y k W) (hk : k < 8) : SumTo x y (k + 1) (W.setIfInBounds k (.int .u32 (nat (at8 x k + at8 y k)))) := by
  refine ⟨by rw [Array.size_setIfInBounds]; exact h.1, fun j hj => ?_⟩
  rw [Array.getElem?_setIfInBounds]
  by_cases e : k = j
  · subst e
    rw [if_pos rfl, if_pos (by rw [h.1]; exact hk), if_pos (by omega), at8_add x y k hk]
  · rw [if_neg e, h.2 j hj]
    by_cases g : j < k
    · rw [if_pos g, if_pos (by omega)]
    · rw [if_neg g, if_neg (by omega)]
theorem sum_all {x y : R8} {W : Array Value} (h : SumTo x y 8 W) : W = arr8 (addR x y) := by
  apply Array.ext_getElem?
  intro j
  by_cases hj : j < 8
  · rw [h.2 j hj, if_pos hj, arr8_at _ j hj]
  · rw [Array.getElem?_eq_none (by rw [h.1]; omega), Array.getElem?_eq_none (by rw [arr8_size]; omega)]
def tOr (r : R8) (k w : UInt32) : UInt32 := r.h + low r.e + (r.e &&& r.f ||| ~~~r.e &&& r.g) + k + w
theorem tOr_eq (r : R8) (k w : UInt32) : tOr r k w = tOf r k w := by unfold tOr tOf; rw [ch_or]
theorem arr8_rnd (r : R8) (t u : UInt32) : (((((((((arr8 r).setIfInBounds 7 (.int .u32 (nat r.g))).setIfInBounds 6 (.int .u32 (nat r.f))).setIfInBounds 5 (.int .u32 (nat r.e))).setIfInBounds 4 (.int .u32 (nat (r.d + t)))).setIfInBounds 3 (.int .u32 (nat r.c))).setIfInBounds 2 (.int .u32 (nat r.b))).setIfInBounds 1 (.int .u32 (nat r.a))).setIfInBounds 0 (.int .u32 (nat (t + u)))) = arr8 ⟨t + u, r.a, r.b, r.c, r.d + t, r.e, r.f, r.g⟩ := by simp [arr8]

/-- The eight stores of a round. -/
def eight (w : World) (g : Nat) (r : R8) (t u : UInt32) : World :=
  (((((((w.setCell ⟨g, 7, none⟩ (.int .u32 (nat r.g))).setCell ⟨g, 6, none⟩ (.int .u32 (nat r.f))).setCell ⟨g, 5, none⟩ (.int .u32 (nat r.e))).setCell ⟨g, 4, none⟩ (.int .u32 (nat (r.d + t)))).setCell ⟨g, 3, none⟩ (.int .u32 (nat r.c))).setCell ⟨g, 2, none⟩ (.int .u32 (nat r.b))).setCell ⟨g, 1, none⟩ (.int .u32 (nat r.a))).setCell ⟨g, 0, none⟩ (.int .u32 (nat (t + u)))
theorem eight_same {w : World} {g : Nat} {T : TypeId} {r : R8} (h : ArrAt w g T (arr8 r)) (t u : UInt32) : ArrAt (eight w g r t u) g T (arr8 ⟨t + u, r.a, r.b, r.c, r.d + t, r.e, r.f, r.g⟩) := by
  rw [← arr8_rnd]
  exact (((((((h.setCell_same 7 _).setCell_same 6 _).setCell_same 5 _).setCell_same 4 _).setCell_same 3 _).setCell_same 2 _).setCell_same 1 _).setCell_same 0 _
theorem eight_other {w : World} {g g' : Nat} {T : TypeId} {A : Array Value} (h : ArrAt w g' T A) (hne : g' ≠ g) (r : R8) (t u : UInt32) : ArrAt (eight w g r t u) g' T A :=
  (((((((h.setCell_other (a := ⟨g, 7, none⟩) hne _).setCell_other (a := ⟨g, 6, none⟩) hne _).setCell_other (a := ⟨g, 5, none⟩) hne _).setCell_other (a := ⟨g, 4, none⟩) hne _).setCell_other (a := ⟨g, 3, none⟩) hne _).setCell_other (a := ⟨g, 2, none⟩) hne _).setCell_other (a := ⟨g, 1, none⟩) hne _).setCell_other (a := ⟨g, 0, none⟩) hne _
theorem eight_below {w w' : World} {B g : Nat} (h : Below B w w') (hg : B ≤ g) (r : R8) (t u : UInt32) : Below B w (eight w' g r t u) :=
  (((((((h.setCell (p := ⟨g, 7, none⟩) hg _).setCell (p := ⟨g, 6, none⟩) hg _).setCell (p := ⟨g, 5, none⟩) hg _).setCell (p := ⟨g, 4, none⟩) hg _).setCell (p := ⟨g, 3, none⟩) hg _).setCell (p := ⟨g, 2, none⟩) hg _).setCell (p := ⟨g, 1, none⟩) hg _).setCell (p := ⟨g, 0, none⟩) hg _

set_option maxRecDepth 100000 in
set_option maxHeartbeats 1600000 in
theorem mixBlock_any (x : R8) (A : Array Value) (xs : List Int) (w : World) (hW : WordsTo xs 64 A) (hK : KTab w) (hp : 0 < w.heap.size) :
    Calls Tryz.prog 97 #[.agg (arr8 x), .agg A] w fun e w' => e = .returned (.agg (arr8 (blk x xs))) ∧ Below w.heap.size w w' := by
  have hz : ∀ w, Sem.run Tryz.prog (zeroValue 116) w = .ok (.agg z8) w := zero8
  have H0 : ArrAt (((w.alloc (.cells (arr8 x) 116)).alloc (.cells A 119)).alloc (.cells z8 116)) w.heap.size 116 (arr8 x) := ((arrAt_new w _ _).alloc _).alloc _
  have H1 : ArrAt (((w.alloc (.cells (arr8 x) 116)).alloc (.cells A 119)).alloc (.cells z8 116)) (w.heap.size + 1) 119 A := by
    have := (arrAt_new (w.alloc (.cells (arr8 x) 116)) 119 A).alloc (.cells z8 116)
    simpa using this
  have H2 : ArrAt (((w.alloc (.cells (arr8 x) 116)).alloc (.cells A 119)).alloc (.cells z8 116)) (w.heap.size + 1 + 1) 116 z8 := by
    have := arrAt_new ((w.alloc (.cells (arr8 x) 116)).alloc (.cells A 119)) 116 z8
    simpa using this
  have B0 : Below w.heap.size w (((w.alloc (.cells (arr8 x) 116)).alloc (.cells A 119)).alloc (.cells z8 116)) := (((Below.refl _ _).alloc (Nat.le_refl _) _).alloc (by simp) _).alloc (by simp; omega) _
  have S0 : (((w.alloc (.cells (arr8 x) 116)).alloc (.cells A 119)).alloc (.cells z8 116)).heap.size = w.heap.size + 1 + 1 + 1 := by simp
  have G0 : Hid _ := H0
  have G1 : Hid _ := H1
  have G2 : Hid _ := H2
  have GB : Hid _ := B0
  have GS : Hid _ := S0
  have I8 : Hid _ := info8
  have GK : Hid (KTab w) := hK
  have GW : Hid (WordsTo xs 64 A) := hW
  clear H0 H1 H2 B0 S0 hK hW
  go_enter Tryz.func97, Tryz.ntmps97
  go_wp2_with (first | (refine wpList_load_row (by rfl) 116 _ (by rfl) w.heap.size (by rfl) 116 (arr8 x) (0, 0) _ G0.out Tryz.underlying116 rfl I8.out ?_) | (refine wpList_store_row (by rfl) 116 _ _ (by rfl) (w.heap.size + 1 + 1 + 1) (arr8 x) (by rfl) (by rfl) 116 z8 (by rw [← GS.out]; exact arrAt_new _ _ _) I8.out rfl (arr8_one x) ?_))
  go_loopw [11] (fun i wr => ∃ k : Nat, k ≤ 64 ∧ i = .int .i64 k ∧ Below w.heap.size w wr ∧ ArrAt wr w.heap.size 116 (arr8 x) ∧ ArrAt wr (w.heap.size + 1) 119 A ∧ ArrAt wr (w.heap.size + 1 + 1) 116 z8 ∧ ArrAt wr (w.heap.size + 1 + 1 + 1) 116 (arr8 (rndTo kt (wt xs) x k))) (fun i _ => 64 - (intOf i).toNat)
  case atStart =>
    refine ⟨0, by omega, rfl, below_setRow (GB.out.alloc (by rw [GS.out]; omega) _) (by omega) _, ?_, ?_, ?_, ?_⟩
    · exact (ArrAt.alloc (show ArrAt _ _ _ _ from G0.out) _).setRow_other (by omega) _
    · exact (ArrAt.alloc (show ArrAt _ _ _ _ from G1.out) _).setRow_other (by omega) _
    · exact (ArrAt.alloc (show ArrAt _ _ _ _ from G2.out) _).setRow_other (by omega) _
    · exact ArrAt.setRow_same (A := z8) (by rw [← GS.out]; exact arrAt_new _ _ _) _
  case round =>
    clear G0 G1 G2 GB GS
    obtain ⟨k, hk, rfl, hbel, hX, hA, hZ, hR⟩ := hrel
    by_cases hlt : k < 64
    · have HS : Hid (rndTo kt (wt xs) x (k + 1) = rnd (rndTo kt (wt xs) x k) (kt k) (wt xs k)) := rfl
      generalize rndTo kt (wt xs) x k = r at hR HS
      have ck := (GK.out.below hbel hp) k hlt
      have cw : wr.cell? ⟨w.heap.size + 1, k, none⟩ = some (.int .u32 (nat (wt xs k))) := (hA.cell k).trans (GW.out.2 k hlt)
      have c0 := (hR.cell 0).trans (arr8_at r 0 (by decide))
      have c1 := (hR.cell 1).trans (arr8_at r 1 (by decide))
      have c2 := (hR.cell 2).trans (arr8_at r 2 (by decide))
      have c4 := (hR.cell 4).trans (arr8_at r 4 (by decide))
      have c5 := (hR.cell 5).trans (arr8_at r 5 (by decide))
      have c6 := (hR.cell 6).trans (arr8_at r 6 (by decide))
      have c7 := (hR.cell 7).trans (arr8_at r 7 (by decide))
      simp only [at8] at c0 c1 c2 c4 c5 c6 c7
      have q0 : (0 : Int) ≤ (k : Int) := by omega
      have q1 : (k : Int) < 64 := by omega
      have had := nat_add
      have han := nat_and
      have hor := nat_or
      have hxr := nat_xor
      have hno : ∀ y : UInt32, bits .xor .u32 (if IntKind.u32.signed = true then -1 else IntKind.u32.max) (nat y) = nat (~~~y) := nat_not
      go_wp2_with fail
      go_quiet ((go_at_call 117; exact Calls.quiet_of_same (mixLower_any _ _)))
      have hbq := below_drewN hbel nq
      have hXq := hX.drewN nq
      have hAq := hA.drewN nq
      have hZq := hZ.drewN nq
      have hRq := hR.drewN nq
      clear ck cw c0 c1 c2 c4 c5 c6 c7 hbel hX hA hZ hR
      generalize wr.drewN nq = wq at hbq hXq hAq hZq hRq ⊢
      have c0 := (hRq.cell 0).trans (arr8_at r 0 (by decide))
      have c1 := (hRq.cell 1).trans (arr8_at r 1 (by decide))
      have c2 := (hRq.cell 2).trans (arr8_at r 2 (by decide))
      simp only [at8] at c0 c1 c2
      go_wp2_with fail
      go_quiet ((go_at_call 118; exact Calls.quiet_of_same (mixUpper_any _ _)))
      have hbp := below_drewN hbq nq
      have hXp := hXq.drewN nq
      have hAp := hAq.drewN nq
      have hZp := hZq.drewN nq
      have hRp := hRq.drewN nq
      clear c0 c1 c2 hbq hXq hAq hZq hRq
      generalize wq.drewN nq = wp at hbp hXp hAp hZp hRp ⊢
      have c0 := (hRp.cell 0).trans (arr8_at r 0 (by decide))
      have c1 := (hRp.cell 1).trans (arr8_at r 1 (by decide))
      have c2 := (hRp.cell 2).trans (arr8_at r 2 (by decide))
      have c3 := (hRp.cell 3).trans (arr8_at r 3 (by decide))
      have c4 := (hRp.cell 4).trans (arr8_at r 4 (by decide))
      have c5 := (hRp.cell 5).trans (arr8_at r 5 (by decide))
      have c6 := (hRp.cell 6).trans (arr8_at r 6 (by decide))
      have c7 := (hRp.cell 7).trans (arr8_at r 7 (by decide))
      simp only [at8] at c0 c1 c2 c3 c4 c5 c6 c7
      have f0 := hRp.frozen 0
      have f1 := hRp.frozen 1
      have f2 := hRp.frozen 2
      have f3 := hRp.frozen 3
      have f4 := hRp.frozen 4
      have f5 := hRp.frozen 5
      have f6 := hRp.frozen 6
      have f7 := hRp.frozen 7
      clear han hor hxr hno
      have e1 := eight_below hbp (g := w.heap.size + 1 + 1 + 1) (by omega) r (tOr r (kt k) (wt xs k)) (uOf r)
      have e2 := eight_other hXp (g := w.heap.size + 1 + 1 + 1) (by omega) r (tOr r (kt k) (wt xs k)) (uOf r)
      have e3 := eight_other hAp (g := w.heap.size + 1 + 1 + 1) (by omega) r (tOr r (kt k) (wt xs k)) (uOf r)
      have e4 := eight_other hZp (g := w.heap.size + 1 + 1 + 1) (by omega) r (tOr r (kt k) (wt xs k)) (uOf r)
      have e5 := eight_same hRp (tOr r (kt k) (wt xs k)) (uOf r)
      have e6 : (⟨tOr r (kt k) (wt xs k) + uOf r, r.a, r.b, r.c, r.d + tOr r (kt k) (wt xs k), r.e, r.f, r.g⟩ : R8) = rndTo kt (wt xs) x (k + 1) := by rw [HS.out, tOr_eq]; rfl
      rw [e6] at e5
      have E1 : Hid (Below w.heap.size w (eight wp (w.heap.size + 1 + 1 + 1) r (tOr r (kt k) (wt xs k)) (uOf r))) := e1
      clear e1 e6
      go_wp2_with fail
      exact ⟨⟨k + 1, by omega, by go_num, E1.out, e2, e3, e4, e5⟩, by simp [intOf]; omega⟩
    · obtain rfl : k = 64 := by omega
      go_wp2_with fail
      go_loopw [90] (fun i wr => ∃ k : Nat, ∃ W : Array Value, k ≤ 8 ∧ i = .int .i64 k ∧ Below w.heap.size w wr ∧ ArrAt wr w.heap.size 116 W ∧ ArrAt wr (w.heap.size + 1 + 1) 116 z8 ∧ ArrAt wr (w.heap.size + 1 + 1 + 1) 116 (arr8 (rndTo kt (wt xs) x 64)) ∧ SumTo x (rndTo kt (wt xs) x 64) k W) (fun i _ => 8 - (intOf i).toNat)
      case atStart => exact ⟨0, arr8 x, by omega, rfl, hbel, hX, hZ, hR, sum_zero _ _⟩
      case round =>
        clear hbel hX hA hZ hR
        obtain ⟨k, W, hk, rfl, hbel, hX, hZ, hR, hS⟩ := hrel
        have HB : Hid (blk x xs = addR x (rndTo kt (wt xs) x 64)) := rfl
        generalize rndTo kt (wt xs) x 64 = r at hR hS HB
        by_cases hlt : k < 8
        · have cx : wr.cell? ⟨w.heap.size, k, none⟩ = some (.int .u32 (nat (at8 x k))) := (hX.cell k).trans (by rw [hS.2 k hlt, if_neg (by omega)])
          have cr : wr.cell? ⟨w.heap.size + 1 + 1 + 1, k, none⟩ = some (.int .u32 (nat (at8 r k))) := (hR.cell k).trans (arr8_at r k hlt)
          have fx := hX.frozen k
          have had := nat_add
          have q0 : (0 : Int) ≤ (k : Int) := by omega
          have q1 : (k : Int) < 8 := by omega
          have e1 := (hbel.setCell (p := ⟨w.heap.size, k, none⟩) (Nat.le_refl _) (.int .u32 (nat (at8 x k + at8 r k)))).drew
          have e2 := (hX.setCell_same k (.int .u32 (nat (at8 x k + at8 r k)))).drew
          have e3 := (hZ.setCell_other (a := ⟨w.heap.size, k, none⟩) (by simp; omega) (.int .u32 (nat (at8 x k + at8 r k)))).drew
          have e4 := (hR.setCell_other (a := ⟨w.heap.size, k, none⟩) (by simp; omega) (.int .u32 (nat (at8 x k + at8 r k)))).drew
          have e5 := sum_step hS hlt
          go_wp2_with fail
          go_region
          clear had
          go_wp2
          go_roundw
          case rel => exact ⟨k + 1, _, by omega, by go_num, e1, e2, e3, e4, e5⟩
          case measure => simp [intOf]; omega
        · obtain rfl : k = 8 := by omega
          have hWe := sum_all hS
          subst hWe
          rw [← HB.out] at hX
          have J8 : Hid ((Tryz.prog.info? 116).map (·.size) = some (arr8 (blk x xs)).size) := by show _ = some (arr8 (blk x xs)).size; rw [arr8_size]; exact I8.out
          have JZ : Hid (z8.size = (arr8 (blk x xs)).size) := by show z8.size = (arr8 (blk x xs)).size; rw [arr8_size]; unfold z8; simp
          have J1 : Hid _ := arr8_one (blk x xs)
          have JR := hZ.setRow_same (arr8 (blk x xs))
          have JB := below_setRow hbel (show w.heap.size ≤ w.heap.size + 1 + 1 by omega) (arr8 (blk x xs))
          clear hS
          generalize hY : arr8 (blk x xs) = Y at hX J8 JZ J1 JR JB
          have HY : Hid (arr8 (blk x xs) = Y) := hY
          clear hY
          go_wp2_with (first | (refine wpList_load_row (by rfl) 116 _ (by rfl) w.heap.size (by rfl) 116 Y (0, 0) _ hX Tryz.underlying116 rfl J8.out ?_) | (refine wpList_store_row (by rfl) 116 _ _ (by rfl) (w.heap.size + 1 + 1) Y (by rfl) (by rfl) 116 z8 hZ J8.out JZ.out J1.out ?_))
          exact bodyPost_ret (v := .agg Y) (results_cell_row Tryz.results97 _ _ (w.heap.size + 1 + 1) 116 _ (0, 0) _ (by rfl) JR Tryz.underlying116 rfl J8.out) (by rfl) ⟨by rw [HY.out], JB⟩
end Go.Proofs.YtiflfcpoajijaaaGreatDoor.Sh
