/- Texts put together: Tz, Shelf, ShaM. -/
import Derived.Test.YtondmbeccpekiaaGreatDoorH0
import Derived.Lib.SmallJoins
import Derived.Lib.ConvBytes
import Derived.Laws.MakeOwn
import Derived.Laws.NewBlocks
import Derived.Deep.QuietTactic
import Derived.BigQuiet
import Derived.Shelf.Strings.OnBuilder
import Derived.Test.YtondmbeccpekiaaGreatDoorProg
import Derived.WalkKit
import Derived.ProofKit
/- Blocks; texts in a slice: read, gathered. -/
namespace Go.Proofs.YtondmbeccpekiaaGreatDoor.Tx
open Go.RowKit Go.Proofs.YtondmbeccpekiaaGreatDoor.Sl Go.Proofs.YtondmbeccpekiaaGreatDoor.By Go.Proofs.YtondmbeccpekiaaGreatDoor.Ap

theorem val_eq {k : IntKind} {a b : Int} (h : a = b) : Value.int k a = .int k b := by rw [h]
theorem ret_str {a b : ByteArray} (h : a = b) : Ending.returned (.string a) = .returned (.string b) := by rw [h]
theorem size_new (w : World) (o : Obj) : (w.alloc o).heap.size = w.heap.size + 1 := by simp
theorem blk_cell {w : World} {b : Nat} {cs : Array Value} {t : TypeId} (h : w.heap[b]? = some (.cells cs t (0, 0))) (i : Nat) {x : Value} (hx : cs[i]? = some x) : w.cell? ⟨b, i, none⟩ = some x ∧ w.frozen? ⟨b, i, none⟩ = false := by
  refine ⟨(Joins.cell_of_block h i).trans hx, ?_⟩
  simp [World.frozen?, h]
theorem blk_set {w : World} {b : Nat} {cs : Array Value} {t : TypeId} (h : w.heap[b]? = some (.cells cs t (0, 0))) (i : Nat) (x : Value) : (w.setCell ⟨b, i, none⟩ x).heap[b]? = some (.cells (cs.setIfInBounds i x) t (0, 0)) := Joins.block_setCell (i := i) h x
theorem blk_far {w : World} {b k : Nat} (hk : k ≠ b) (i : Nat) (x : Value) : (w.setCell ⟨b, i, none⟩ x).heap[k]? = w.heap[k]? := Below.heap_setCell w ⟨b, i, none⟩ x k hk
theorem blk_new (w : World) (cs : Array Value) (t : TypeId) : (w.alloc (.cells cs t)).heap[w.heap.size]? = some (.cells cs t (0, 0)) := heap_alloc_new w _
theorem bel_new (w : World) (o : Obj) : Below w.heap.size w (w.alloc o) := (Below.refl _ _).alloc (Nat.le_refl _) _

def tnth (ts : List ByteArray) (i : Nat) : ByteArray := ts.getD i ⟨#[]⟩
def RowT (w : World) (v : Value) (ts : List ByteArray) : Prop :=
  ∃ a cap, v = .slice a ts.length cap ∧ (ts = [] ∨ ∃ b off, a = some ⟨b, off, none⟩ ∧ ts.length ≤ cap ∧ b < w.heap.size ∧ ∀ i, i < ts.length → w.cell? ⟨b, off + i, none⟩ = some (.string (tnth ts i)))
theorem RowT.below {w w' : World} {v : Value} {ts : List ByteArray} (h : RowT w v ts) (hb : Below w.heap.size w w') : RowT w' v ts := by
  obtain ⟨a, cap, rfl, h⟩ := h
  refine ⟨a, cap, rfl, ?_⟩
  rcases h with h | ⟨b, off, rfl, hc, hlt, h⟩
  · exact .inl h
  · exact .inr ⟨b, off, rfl, hc, Nat.lt_of_lt_of_le hlt hb.size, fun i hi => (hb.cell (p := ⟨b, off + i, none⟩) hlt).trans (h i hi)⟩
theorem tnth_at {ts : List ByteArray} {i : Nat} (h : i < ts.length) : ts[i]? = some (tnth ts i) := by
  unfold tnth; rw [List.getD_eq_getElem?_getD, List.getElem?_eq_getElem h]; rfl
theorem row_lit (w : World) (e : TypeId) (ts : List ByteArray) (cs : Array Value) (n : Nat) (hn : ts.length = n) (hcs : cs = (ts.map Value.string).toArray) : RowT (w.alloc (.cells cs e)) (.slice (some ⟨w.heap.size, 0, none⟩) n n) ts := by
  subst hn hcs
  refine ⟨_, _, rfl, .inr ⟨w.heap.size, 0, rfl, Nat.le_refl _, by simp, fun i hi => ?_⟩⟩
  rw [Nat.zero_add, Joins.cell_of_block (blk_new w _ e) i, List.getElem?_toArray, List.getElem?_map, tnth_at hi]
  rfl
theorem info9 : (Tryz.prog.info? 9).map (fun i => (i.zero, i.size, i.bytes)) = some (some (.string ⟨#[]⟩), 1, 16) := by kernel_rfl

def OwnS (w : World) (B : Nat) (v : Value) (ts : List ByteArray) : Prop := w.ownsRow B 9 1 v ts.length (ts.map Value.string)
theorem OwnS.row {w : World} {B : Nat} {v : Value} {ts : List ByteArray} (h : OwnS w B v ts) : RowT w v ts := by
  obtain ⟨hl, h⟩ := h
  rcases h with ⟨rfl, h0⟩ | ⟨g, cap, cur, rfl, hB, hg, hc, _, hs, htk⟩
  · exact ⟨none, 0, by rw [h0], .inl (List.length_eq_zero_iff.1 h0)⟩
  · refine ⟨_, cap, rfl, .inr ⟨g, 0, rfl, hc, (Array.getElem?_eq_some_iff.1 hg).1, fun i hi => ?_⟩⟩
    rw [Nat.zero_add, Joins.cell_of_block hg i]
    have h1 : (cur.toList.take (ts.length * 1))[i]? = some (.string (tnth ts i)) := by
      rw [htk, List.getElem?_map, List.getElem?_eq_getElem hi]
      simp [tnth, List.getD_eq_getElem?_getD, List.getElem?_eq_getElem hi]
    rw [List.getElem?_take] at h1
    split at h1
    · simpa using h1
    · cases h1
theorem OwnS.below {w w' : World} {B : Nat} {v : Value} {ts : List ByteArray} (h : OwnS w B v ts) (hb : Below w.heap.size w w') : OwnS w' B v ts := by
  obtain ⟨hl, h⟩ := h
  refine ⟨hl, ?_⟩
  rcases h with h | ⟨g, cap, cur, hv, hB, hgb, h⟩
  · exact .inl h
  · exact .inr ⟨g, cap, cur, hv, hB, (hb.block g (Array.getElem?_eq_some_iff.1 hgb).1).trans hgb, h⟩
theorem OwnS.mono {w : World} {B B' : Nat} {v : Value} {ts : List ByteArray} (h : OwnS w B v ts) (hb : B' ≤ B) : OwnS w B' v ts := by
  obtain ⟨hl, h⟩ := h
  refine ⟨hl, ?_⟩
  rcases h with h | ⟨g, cap, cur, hv, hB, h⟩
  · exact .inl h
  · exact .inr ⟨g, cap, cur, hv, by omega, h⟩
theorem OwnS.nil (w : World) (B : Nat) : OwnS w B (.slice none 0 0) [] := World.ownsRow_nil _ _ _ _
theorem OwnS.made (w : World) (B : Nat) (hB : B ≤ w.heap.size) : OwnS (w.alloc (.cells #[] 9)) B (.slice (some ⟨w.heap.size, 0, none⟩) 0 0) [] :=
  World.ownsRow_made w #[] 0 hB (by decide) rfl
theorem OwnS.drew {w : World} {B : Nat} {v : Value} {ts : List ByteArray} (h : OwnS w B v ts) : OwnS w.drew B v ts := h
end Go.Proofs.YtondmbeccpekiaaGreatDoor.Tx

/- strings.Join at this program: the library's contract, laid. -/
namespace Go.Proofs.YtondmbeccpekiaaGreatDoor.Sf
open Go.Shelf Go.RowKit
def lays156_ren : Go.Shelf.Ren := ⟨fun | 156 => 142 | 165 => 157 | 166 => 158 | 169 => 159 | 240 => 173 | 241 => 174 | 276 => 189 | 277 => 190 | n => n, fun | 31 => 38 | 9 => 9 | 3 => 3 | 4 => 4 | 0 => 0 | 20 => 20 | 72 => 212 | 76 => 216 | 70 => 210 | 37 => 107 | 75 => 215 | 127 => 238 | 164 => 251 | 5 => 5 | 80 => 218 | n => n, fun | n => n⟩
theorem lays156 : Go.Proofs.Lays.n156 Tryz.prog lays156_ren := {
  mixed := by kernel_rfl
  f156 := Tryz.func142.trans (congrArg some (by kernel_rfl))
  f165 := Tryz.func157.trans (congrArg some (by kernel_rfl))
  f166 := Tryz.func158.trans (congrArg some (by kernel_rfl))
  f169 := Tryz.func159.trans (congrArg some (by kernel_rfl))
  f240 := Tryz.func173.trans (congrArg some (by kernel_rfl))
  f241 := Tryz.func174.trans (congrArg some (by kernel_rfl))
  f276 := Tryz.func189.trans (congrArg some (by kernel_rfl))
  f277 := Tryz.func190.trans (congrArg some (by kernel_rfl))
  t0 := Tryz.underlying0
  a0 := Tryz.isAgg0
  z0 := Tryz.sizeOf0
  v0 := Tryz.zeroValue0
  t3 := Tryz.underlying3
  a3 := Tryz.isAgg3
  z3 := Tryz.sizeOf3
  v3 := Tryz.zeroValue3
  t4 := Tryz.underlying4
  a4 := Tryz.isAgg4
  z4 := Tryz.sizeOf4
  v4 := Tryz.zeroValue4
  t9 := Tryz.underlying9
  a9 := Tryz.isAgg9
  z9 := Tryz.sizeOf9
  v9 := Tryz.zeroValue9
  t20 := Tryz.underlying20
  a20 := Tryz.isAgg20
  z20 := Tryz.sizeOf20
  v20 := Tryz.zeroValue20
  t31 := Tryz.underlying38
  a31 := Tryz.isAgg38
  z31 := Tryz.sizeOf38
  v31 := Tryz.zeroValue38
  t37 := Tryz.underlying107
  a37 := Tryz.isAgg107
  z37 := Tryz.sizeOf107
  v37 := Tryz.zeroValue107
  t70 := Tryz.underlying210
  a70 := Tryz.isAgg210
  z70 := Tryz.sizeOf210
  v70 := Tryz.zeroValue210
  t72 := Tryz.underlying212
  a72 := Tryz.isAgg212
  z72 := Tryz.sizeOf212
  v72 := Tryz.zeroValue212
  t75 := Tryz.underlying215
  a75 := Tryz.isAgg215
  z75 := Tryz.sizeOf215
  v75 := Tryz.zeroValue215
  t76 := Tryz.underlying216
  a76 := Tryz.isAgg216
  z76 := Tryz.sizeOf216
  v76 := Tryz.zeroValue216
  t127 := Tryz.underlying238
  a127 := Tryz.isAgg238
  z127 := Tryz.sizeOf238
  v127 := Tryz.zeroValue238
  t164 := Tryz.underlying251
  a164 := Tryz.isAgg251
  z164 := Tryz.sizeOf251
  v164 := Tryz.zeroValue251 }
theorem extra156 : Builder.Extra Tryz.prog lays156_ren := {
  sizeBuilder := by kernel_rfl
  liesBuilder := by kernel_rfl
  t5 := Tryz.underlying5
  a5 := Tryz.isAgg5
  z5 := Tryz.sizeOf5
  v5 := Tryz.zeroValue5
  infoByte := by kernel_rfl
  cellsByte := by kernel_rfl
  sizeByte := by kernel_rfl
  neB5 := by decide }
theorem join_laid (bk o c : Nat) (xs : List ByteArray) (sep : ByteArray) (w : World) (hcells : ∀ (j : Nat) x, xs[j]? = some x → w.cell? ⟨bk, o + j, none⟩ = some (.string x)) (hbk : bk < w.heap.size) (hN : xs.length ≤ 140737488355328) (hcap : xs.length ≤ c) (hlen : (Lib.join (xs.map (·.data.toList)) sep.data.toList).length ≤ 140737488355328) :
    Calls Tryz.prog 142 #[.slice (some ⟨bk, o, none⟩) xs.length c, .string sep] w fun e w' => e = .returned (.string ⟨(Lib.join (xs.map (·.data.toList)) sep.data.toList).toArray⟩) ∧ Below w.heap.size w w' := Any.strings_Join lays156 extra156 bk o c xs sep w hcells hbk hN hcap hlen
end Go.Proofs.YtondmbeccpekiaaGreatDoor.Sf

/- SHA-256 in plain words: what both Hash functions reckon. Of no program. -/
namespace Go.Proofs.YtondmbeccpekiaaGreatDoor.Sh
open Go.RowKit

def nat (x : UInt32) : Int := ((x.toNat : Nat) : Int)
theorem nat_lo (x : UInt32) : 0 ≤ nat x := by unfold nat; omega
theorem nat_hi (x : UInt32) : nat x < 4294967296 := by unfold nat; have := x.toNat_lt; omega
theorem nat_add (x y : UInt32) : (nat x + nat y) % 4294967296 = nat (x + y) := by unfold nat; rw [UInt32.toNat_add]; omega
theorem nat_xor (x y : UInt32) : bits .xor .u32 (nat x) (nat y) = nat (x ^^^ y) := by
  unfold nat; rw [u32_xor_nat _ _ x.toNat_lt y.toNat_lt, UInt32.toNat_xor]
theorem nat_and (x y : UInt32) : bits .and .u32 (nat x) (nat y) = nat (x &&& y) := by
  unfold nat; rw [u32_and_nat _ _ x.toNat_lt y.toNat_lt, UInt32.toNat_and]
theorem nat_or (x y : UInt32) : bits .or .u32 (nat x) (nat y) = nat (x ||| y) := by
  unfold nat; rw [u32_or_nat _ _ x.toNat_lt y.toNat_lt, UInt32.toNat_or]
theorem nat_not (x : UInt32) : bits .xor .u32 IntKind.u32.max (nat x) = nat (~~~x) := by
  have e : IntKind.u32.max = nat (UInt32.ofNat 4294967295) := rfl
  have h : UInt32.ofNat 4294967295 ^^^ x = ~~~x := by
    have e2 : (UInt32.ofNat 4294967295) = ~~~0 := by decide
    rw [e2]
    exact UInt32.neg_one_xor
  rw [e, nat_xor, h]
theorem nat_wrap (x : UInt32) : IntKind.u32.wrap (nat x) = nat x := by
  have h1 := nat_lo x; have h2 := nat_hi x
  rw [IntKind.wrap_u32]; omega
theorem nat_shr (x : UInt32) (k : Nat) (h : k < 32) : nat x / 2 ^ k = nat (x >>> UInt32.ofNat k) := by
  unfold nat
  have e : (UInt32.ofNat k).toNat % 32 = k := by rw [UInt32.toNat_ofNat_of_lt' (by unfold UInt32.size; omega)]; omega
  rw [UInt32.toNat_shiftRight, e, Nat.shiftRight_eq_div_pow]
  norm_cast
theorem nat_shl (x : UInt32) (k : Nat) (h : k < 32) : nat x * 2 ^ k % 4294967296 = nat (x <<< UInt32.ofNat k) := by
  unfold nat
  have e : (UInt32.ofNat k).toNat % 32 = k := by rw [UInt32.toNat_ofNat_of_lt' (by unfold UInt32.size; omega)]; omega
  rw [UInt32.toNat_shiftLeft, e, Nat.shiftLeft_eq, Int.natCast_emod, Int.natCast_mul, Int.natCast_pow]
  rfl

def rotr (x : UInt32) (n : Nat) : UInt32 := x >>> UInt32.ofNat n ||| x <<< UInt32.ofNat (32 - n)
def up (a : UInt32) : UInt32 := rotr a 2 ^^^ rotr a 13 ^^^ rotr a 22
def low (e : UInt32) : UInt32 := rotr e 6 ^^^ rotr e 11 ^^^ rotr e 25
def s0 (x : UInt32) : UInt32 := rotr x 7 ^^^ rotr x 18 ^^^ x >>> 3
def s1 (x : UInt32) : UInt32 := rotr x 17 ^^^ rotr x 19 ^^^ x >>> 10
def ch (e f g : UInt32) : UInt32 := (e &&& f) ^^^ (~~~e &&& g)
def maj (a b c : UInt32) : UInt32 := (a &&& b) ^^^ (a &&& c) ^^^ (b &&& c)
theorem ch_or (e f g : UInt32) : (e &&& f) ||| (~~~e &&& g) = ch e f g := by
  unfold ch
  apply UInt32.toBitVec_inj.1
  simp only [UInt32.toBitVec_or, UInt32.toBitVec_and, UInt32.toBitVec_not, UInt32.toBitVec_xor]
  apply BitVec.eq_of_getElem_eq
  intro i hi
  simp only [BitVec.getElem_or, BitVec.getElem_and, BitVec.getElem_not, BitVec.getElem_xor]
  cases e.toBitVec[i] <;> cases f.toBitVec[i] <;> cases g.toBitVec[i] <;> rfl
structure R8 where
  a : UInt32
  b : UInt32
  c : UInt32
  d : UInt32
  e : UInt32
  f : UInt32
  g : UInt32
  h : UInt32
def tOf (r : R8) (k w : UInt32) : UInt32 := r.h + low r.e + ch r.e r.f r.g + k + w
def uOf (r : R8) : UInt32 := up r.a + maj r.a r.b r.c
def rnd (r : R8) (k w : UInt32) : R8 := ⟨tOf r k w + uOf r, r.a, r.b, r.c, r.d + tOf r k w, r.e, r.f, r.g⟩
def rndTo (kt wt : Nat → UInt32) (r : R8) : Nat → R8
  | 0 => r
  | n + 1 => rnd (rndTo kt wt r n) (kt n) (wt n)
def addR (x y : R8) : R8 := ⟨x.a + y.a, x.b + y.b, x.c + y.c, x.d + y.d, x.e + y.e, x.f + y.f, x.g + y.g, x.h + y.h⟩
def at8 (r : R8) : Nat → UInt32
  | 0 => r.a
  | 1 => r.b
  | 2 => r.c
  | 3 => r.d
  | 4 => r.e
  | 5 => r.f
  | 6 => r.g
  | _ => r.h
def wb (xs : List Int) (i : Nat) : UInt32 := UInt32.ofNat (xs.getD i 0).toNat
def be (xs : List Int) (i : Nat) : UInt32 := wb xs (4 * i) <<< 24 ||| wb xs (4 * i + 1) <<< 16 ||| wb xs (4 * i + 2) <<< 8 ||| wb xs (4 * i + 3)
theorem wb_eq (xs : List Int) (i : Nat) (h0 : 0 ≤ xs.getD i 0) (h1 : xs.getD i 0 ≤ 255) : xs.getD i 0 = nat (wb xs i) := by
  unfold nat wb
  rw [UInt32.toNat_ofNat_of_lt' (by unfold UInt32.size; omega)]
  omega
def sched (xs : List Int) : Nat → List UInt32
  | 0 => []
  | n + 1 => sched xs n ++ [if n < 16 then be xs n else (sched xs n).getD (n - 16) 0 + s0 ((sched xs n).getD (n - 15) 0) + (sched xs n).getD (n - 7) 0 + s1 ((sched xs n).getD (n - 2) 0)]
theorem sched_length (xs : List Int) : ∀ n, (sched xs n).length = n
  | 0 => rfl
  | n + 1 => by rw [sched, List.length_append, sched_length xs n]; rfl
theorem sched_getD (xs : List Int) (j : Nat) : ∀ n, j < n → (sched xs n).getD j 0 = (sched xs (j + 1)).getD j 0
  | 0, h => by omega
  | n + 1, h => by
    by_cases e : j = n
    · rw [e]
    · rw [← sched_getD xs j n (by omega), sched, List.getD_eq_getElem?_getD, List.getElem?_append_left (by rw [sched_length]; omega), List.getD_eq_getElem?_getD]
def wt (xs : List Int) (j : Nat) : UInt32 := (sched xs (j + 1)).getD j 0
theorem wt_def (xs : List Int) (j : Nat) : wt xs j = if j < 16 then be xs j else wt xs (j - 16) + s0 (wt xs (j - 15)) + wt xs (j - 7) + s1 (wt xs (j - 2)) := by
  have e : wt xs j = if j < 16 then be xs j else (sched xs j).getD (j - 16) 0 + s0 ((sched xs j).getD (j - 15) 0) + (sched xs j).getD (j - 7) 0 + s1 ((sched xs j).getD (j - 2) 0) := by
    unfold wt
    rw [sched, List.getD_eq_getElem?_getD, List.getElem?_append_right (by rw [sched_length]; omega), sched_length, Nat.sub_self]
    rfl
  rw [e]
  by_cases h : j < 16
  · rw [if_pos h, if_pos h]
  · rw [if_neg h, if_neg h, sched_getD xs (j - 16) j (by omega), sched_getD xs (j - 15) j (by omega), sched_getD xs (j - 7) j (by omega), sched_getD xs (j - 2) j (by omega)]
    rfl
theorem wt_low (xs : List Int) (j : Nat) (h : j < 16) : wt xs j = be xs j := by rw [wt_def, if_pos h]
theorem wt_high (xs : List Int) (j : Nat) (h : ¬ j < 16) : wt xs j = wt xs (j - 16) + s0 (wt xs (j - 15)) + wt xs (j - 7) + s1 (wt xs (j - 2)) := by
  conv => lhs; rw [wt_def, if_neg h]

def kList : List UInt32 := [1116352408, 1899447441, 3049323471, 3921009573, 961987163, 1508970993, 2453635748, 2870763221, 3624381080, 310598401, 607225278, 1426881987, 1925078388, 2162078206, 2614888103, 3248222580, 3835390401, 4022224774, 264347078, 604807628, 770255983, 1249150122, 1555081692, 1996064986, 2554220882, 2821834349, 2952996808, 3210313671, 3336571891, 3584528711, 113926993, 338241895, 666307205, 773529912, 1294757372, 1396182291, 1695183700, 1986661051, 2177026350, 2456956037, 2730485921, 2820302411, 3259730800, 3345764771, 3516065817, 3600352804, 4094571909, 275423344, 430227734, 506948616, 659060556, 883997877, 958139571, 1322822218, 1537002063, 1747873779, 1955562222, 2024104815, 2227730452, 2361852424, 2428436474, 2756734187, 3204031479, 3329325298]
def kt (i : Nat) : UInt32 := kList.getD i 0
def r0 : R8 := ⟨1779033703, 3144134277, 1013904242, 2773480762, 1359893119, 2600822924, 528734635, 1541459225⟩
def blk (r : R8) (xs : List Int) : R8 := addR r (rndTo kt (wt xs) r 64)
def cut (ps : List Int) (q : Nat) : List Int := (ps.drop (64 * q)).take 64
def blksTo (ps : List Int) : Nat → R8
  | 0 => r0
  | q + 1 => blk (blksTo ps q) (cut ps q)
def byteOf (x : UInt32) (m : Nat) : Int := nat x / 2 ^ (24 - 8 * m) % 256
def outTo (r : R8) (k : Nat) : List Int := (List.range (4 * k)).map fun j => byteOf (at8 r (j / 4)) (j % 4)
theorem outTo_length (r : R8) (k : Nat) : (outTo r k).length = 4 * k := by simp [outTo]
theorem outTo_at (r : R8) (k j : Nat) (h : j < 4 * k) : (outTo r k).getD j 0 = byteOf (at8 r (j / 4)) (j % 4) := by simp [outTo, List.getD_eq_getElem?_getD, h]
theorem outTo_succ (r : R8) (k : Nat) : outTo r (k + 1) = outTo r k ++ [byteOf (at8 r k) 0, byteOf (at8 r k) 1, byteOf (at8 r k) 2, byteOf (at8 r k) 3] := by
  unfold outTo
  rw [show 4 * (k + 1) = 4 * k + 1 + 1 + 1 + 1 by omega, List.range_succ, List.range_succ, List.range_succ, List.range_succ]
  simp only [List.map_append, List.map_cons, List.map_nil, List.append_assoc, List.cons_append, List.nil_append]
  rw [show 4 * k / 4 = k by omega, show (4 * k + 1) / 4 = k by omega, show (4 * k + 1 + 1) / 4 = k by omega, show (4 * k + 1 + 1 + 1) / 4 = k by omega,
    show 4 * k % 4 = 0 by omega, show (4 * k + 1) % 4 = 1 by omega, show (4 * k + 1 + 1) % 4 = 2 by omega, show (4 * k + 1 + 1 + 1) % 4 = 3 by omega]
def out (r : R8) : List Int := outTo r 8
def zerosOf (n : Nat) : Nat := (119 - n % 64) % 64
def lenByte (n m : Nat) : Int := ((8 * n / 2 ^ (8 * (7 - m)) % 256 : Nat) : Int)
def lenBytes (n : Nat) : List Int := [lenByte n 0, lenByte n 1, lenByte n 2, lenByte n 3, lenByte n 4, lenByte n 5, lenByte n 6, lenByte n 7]
def pad (xs : List Int) : List Int := xs ++ [128] ++ List.replicate (zerosOf xs.length) 0 ++ lenBytes xs.length
theorem pad_length (xs : List Int) : (pad xs).length = xs.length + 9 + zerosOf xs.length := by
  unfold pad lenBytes; simp; omega
theorem pad_blocks (xs : List Int) : (pad xs).length = 64 * ((xs.length + 72) / 64) := by
  rw [pad_length]; unfold zerosOf; omega
def sha (xs : List Int) : List Int := out (blksTo (pad xs) ((xs.length + 72) / 64))
end Go.Proofs.YtondmbeccpekiaaGreatDoor.Sh
