/- Texts put together: Gr, Bo, Gd. -/
import Derived.Test.YtakfniknkejgpaaDoorMp33
import Derived.Test.YtakfniknkejgpaaDoorMp30
import Derived.Laws.StructEq
import Derived.Test.YtakfniknkejgpaaDoorMp32
/- Readings in a slice: read, measured, copied, compared. -/
namespace Go.Proofs.YtakfniknkejgpaaDoor.Gr
open Go.RowKit Go.Proofs.YtakfniknkejgpaaDoor.Sl Go.Proofs.YtakfniknkejgpaaDoor.Ap Go.Proofs.YtakfniknkejgpaaDoor.Rg

structure Rd where
 f : Int
 x : Int
 m : ByteArray
instance : Inhabited Rd := ⟨⟨0, 0, ⟨#[]⟩⟩⟩
def E1 (w : World) (b o : Nat) (x : Rd) : Prop := w.cell? ⟨b, o, none⟩ = some (.int .i64 x.f) ∧ w.cell? ⟨b, o + 1, none⟩ = some (.int .i64 x.x) ∧ w.cell? ⟨b, o + 2, none⟩ = some (.string x.m)
def Row (w : World) (v : Value) (xs : List Rd) : Prop := RowG 3 E1 w v xs
theorem stays1 : Stays E1 := fun _ _ b _ _ hb hlt ⟨h0, h1, h2⟩ => ⟨(hb.cell (p := ⟨b, _, none⟩) hlt).trans h0, (hb.cell (p := ⟨b, _, none⟩) hlt).trans h1, (hb.cell (p := ⟨b, _, none⟩) hlt).trans h2⟩
theorem Row.below {w w' : World} {v : Value} {xs : List Rd} (h : Row w v xs) (hb : Below w.heap.size w w') : Row w' v xs := RowG.below stays1 h hb
end Go.Proofs.YtakfniknkejgpaaDoor.Gr
namespace Go.Proofs.YtakfniknkejgpaaDoor.Op
open Go.ChangeShapes Go.WideShapes Go.ChangeAt Go.RowKit Go.Deep Go.Proofs.YtakfniknkejgpaaDoor.Rg Go.Proofs.YtakfniknkejgpaaDoor.Gr
end Go.Proofs.YtakfniknkejgpaaDoor.Op

/- Batches: what is right, of the program and of the specification. -/
namespace Go.Proofs.YtakfniknkejgpaaDoor.Bo
open Go.RowKit Go.Proofs.YtakfniknkejgpaaDoor.Rg Go.Proofs.YtakfniknkejgpaaDoor.Gr Go.Proofs.YtakfniknkejgpaaDoor.Rq

def r1 (least : Int) (x : Rd) : Bool := inB x.f least 6 && (inB x.x 0 1000000000 && ((x.m.size : Int) == 8))
theorem in_any (x a b : Int) (w : World) : Calls Tryd.prog 49 #[.int .i64 x, .int .i64 a, .int .i64 b] w fun e w' => e = .returned (.bool (inB x a b)) ∧ w = w' := (l01In_any x a b w).mono fun _ _ ⟨h1, h2⟩ => ⟨h1, h2.symm⟩
end Go.Proofs.YtakfniknkejgpaaDoor.Bo

/- Requests that the source draws. -/
namespace Go.Proofs.YtakfniknkejgpaaDoor.Gn
open Go.RowKit Go.Proofs.YtakfniknkejgpaaDoor.Sl Go.Proofs.YtakfniknkejgpaaDoor.By Go.Proofs.YtakfniknkejgpaaDoor.Ap Go.Proofs.YtakfniknkejgpaaDoor.Rq Go.Proofs.YtakfniknkejgpaaDoor.Rr Go.Proofs.YtakfniknkejgpaaDoor.Ty

theorem Src.set {B p b K : Nat} {w : World} {xs : List Int} (h : Src B w p xs K) (hb : p ≠ b) (hB : B ≤ b) (i : Nat) (x : Value) : Src B (w.setCell ⟨b, i, none⟩ x) p xs K :=
 h.kept (blk_far hb i x) (fun k hk => blk_far (by omega) i x)
theorem req_ok {c st k l : Int} {n : ByteArray} (h1 : inB c 0 255 = true) (h2 : inB st 1 65535 = true) (h3 : leB k l = true) (h4 : opB n = true) : reqB c st k l n = true := by
 unfold reqB; rw [h1, h2, h3, h4]; rfl
theorem Src.le {B p K K' : Nat} {w : World} {xs : List Int} (h : Src B w p xs K) (hk : K ≤ K') : Src B w p xs K' := by
 obtain ⟨v, a, s, q1, q2, q3, q4⟩ := h
 exact ⟨v, a, s, q1, q2, by omega, q4⟩
set_option maxHeartbeats 400000 in
theorem chance_any (n p B K : Nat) (xs : List Int) (w : World) (h : Src B w p xs K) (hB : B ≤ p) (hK : K ≤ 1000000000) (hx : xs.length ≤ 1048600) (hn : 0 < n) (hn2 : n ≤ 256) :
 Calls Tryd.prog 78 #[.pointer (some ⟨p, 0, none⟩), .int .i64 n] w fun e w' => ∃ b : Bool, e = .returned (.bool b) ∧ Src B w' p xs (K + 1) ∧ w.grownBy w' (some p) := by
 have hn3 : (n : Int) ≤ 256 := by omega
 go_enter Tryd.func78, Tryd.ntmps78
 go_wp2_with fail
 refine (next_any n p B K xs _ h hB hK hx hn hn2).mono ?_
 rintro e w1 ⟨r, rfl, hr, s1, g1⟩
 have S1 : Hid (Src B w1 p xs (K + 1)) := s1
 clear s1 h
 go_wp2_with fail
 go_ret
 exact ⟨_, rfl, S1.out, g1⟩
def lk3 : List ByteArray := [⟨#[97]⟩, ⟨#[98]⟩, ⟨#[108, 111, 99, 107]⟩]
theorem lk3_ok (r : Nat) (h : r < 3) : opB (tnth lk3 r) = true := by
 match r, h with
 | 0, _ => decide
 | 1, _ => decide
 | 2, _ => decide
end Go.Proofs.YtakfniknkejgpaaDoor.Gn
