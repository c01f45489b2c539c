/- Chains: KeyChainOK of both, and the laws' helpers on them. -/
import Derived.Test.YtjggfholjdplbaaDoorRows
import Derived.WalkKit
import Derived.ProofKit
import Derived.WalkSpells
import Derived.Below
import Derived.Laws.NewBlocks
namespace Go.Proofs.YtjggfholjdplbaaDoor.Ck
open Go.RowKit

def inC (n a b : Int) : Bool := decide (a ≤ n) && decide (n ≤ b)
/-- What KeyChainOK answers. -/
def ckB (s : ByteArray) (n : Int) : Bool := decide (s.size = 32) && inC n 0 8
theorem ret_b {a b : Bool} (h : a = b) : Ending.returned (.bool a) = .returned (.bool b) := by rw [h]
theorem ret_i {a b : Int} (h : a = b) : Ending.returned (.int .i64 a) = .returned (.int .i64 b) := by rw [h]
theorem newBel (w : World) (o : Obj) : Below w.heap.size w (w.alloc o) := (Below.refl _ _).alloc (Nat.le_refl _) _
theorem ck_cases (s : ByteArray) (n : Int) : (s.size ≠ 32 ∧ ckB s n = false) ∨ (s.size = 32 ∧ ¬ 0 ≤ n ∧ ckB s n = false) ∨ (s.size = 32 ∧ 0 ≤ n ∧ ¬ n ≤ 8 ∧ ckB s n = false) ∨ (s.size = 32 ∧ 0 ≤ n ∧ n ≤ 8 ∧ ckB s n = true) := by
  unfold ckB inC
  by_cases h : s.size = 32
  · by_cases h1 : 0 ≤ n
    · by_cases h2 : n ≤ 8
      · exact .inr (.inr (.inr ⟨h, h1, h2, by rw [decide_eq_true h, decide_eq_true h1, decide_eq_true h2]; rfl⟩))
      · exact .inr (.inr (.inl ⟨h, h1, h2, by rw [decide_eq_false h2]; simp⟩))
    · exact .inr (.inl ⟨h, h1, by rw [decide_eq_false h1]; simp⟩)
  · exact .inl ⟨h, by rw [decide_eq_false h]; rfl⟩
set_option maxRecDepth 100000 in
set_option maxHeartbeats 400000 in
theorem implKeyChainOK_any (s : ByteArray) (n : Int) (w : World) : Calls Tryd.prog 39 #[.agg #[.string s, .int .i64 n]] w fun e w' => e = .returned (.bool (ckB s n)) ∧ Below w.heap.size w w' := by
  rcases ck_cases s n with ⟨h, e⟩ | ⟨h, h1, e⟩ | ⟨h, h1, h2, e⟩ | ⟨h, h1, h2, e⟩
  · have HE : Hid (ckB s n = false) := e
    have h' : ((s.size : Int) == 32) = false := by simp; omega
    clear h e
    go_enter Tryd.func39, Tryd.ntmps39
    go_wp2
    go_ret
    exact ⟨ret_b HE.out.symm, newBel _ _⟩
  · have HE : Hid (ckB s n = false) := e
    have h' : ((s.size : Int) == 32) = true := by simp; omega
    clear h e
    go_enter Tryd.func39, Tryd.ntmps39
    go_wp2
    go_ret
    exact ⟨ret_b HE.out.symm, newBel _ _⟩
  · have HE : Hid (ckB s n = false) := e
    have h' : ((s.size : Int) == 32) = true := by simp; omega
    clear h e
    go_enter Tryd.func39, Tryd.ntmps39
    go_wp2
    go_ret
    exact ⟨ret_b HE.out.symm, newBel _ _⟩
  · have HE : Hid (ckB s n = true) := e
    have h' : ((s.size : Int) == 32) = true := by simp; omega
    clear h e
    go_enter Tryd.func39, Tryd.ntmps39
    go_wp2
    go_ret
    exact ⟨ret_b HE.out.symm, newBel _ _⟩
set_option maxRecDepth 100000 in
set_option maxHeartbeats 400000 in
theorem specKeyChainOK_any (s : ByteArray) (n : Int) (w : World) : Calls Tryd.prog 70 #[.agg #[.string s, .int .i64 n]] w fun e w' => e = .returned (.bool (ckB s n)) ∧ Below w.heap.size w w' := by
  rcases ck_cases s n with ⟨h, e⟩ | ⟨h, h1, e⟩ | ⟨h, h1, h2, e⟩ | ⟨h, h1, h2, e⟩
  · have HE : Hid (ckB s n = false) := e
    have h' : ((s.size : Int) == 32) = false := by simp; omega
    clear h e
    go_enter Tryd.func70, Tryd.ntmps70
    go_wp2
    go_ret
    exact ⟨ret_b HE.out.symm, newBel _ _⟩
  · have HE : Hid (ckB s n = false) := e
    have h' : ((s.size : Int) == 32) = true := by simp; omega
    clear h e
    go_enter Tryd.func70, Tryd.ntmps70
    go_wp2
    go_ret
    exact ⟨ret_b HE.out.symm, newBel _ _⟩
  · have HE : Hid (ckB s n = false) := e
    have h' : ((s.size : Int) == 32) = true := by simp; omega
    clear h e
    go_enter Tryd.func70, Tryd.ntmps70
    go_wp2
    go_ret
    exact ⟨ret_b HE.out.symm, newBel _ _⟩
  · have HE : Hid (ckB s n = true) := e
    have h' : ((s.size : Int) == 32) = true := by simp; omega
    clear h e
    go_enter Tryd.func70, Tryd.ntmps70
    go_wp2
    go_ret
    exact ⟨ret_b HE.out.symm, newBel _ _⟩
set_option maxRecDepth 100000 in
set_option maxHeartbeats 400000 in
theorem toKeyChain_any (s : ByteArray) (n : Int) (w : World) : Calls Tryd.prog 31 #[.agg #[.string s, .int .i64 n]] w fun e w' => e = .returned (.agg #[.string s, .int .i64 n]) ∧ Below w.heap.size w w' := by
  go_enter Tryd.func31, Tryd.ntmps31
  go_wp2
  refine bodyPost_ret (v := .agg #[.string s, .int .i64 n]) (by simp [results, Tryd.results31, go_sem]) rfl ⟨rfl, ?_⟩
  exact (((Below.refl _ _).alloc (Nat.le_refl _) _).alloc (by simp) _).alloc (by simp; omega) _
def lf (s : ByteArray) : Int := if 1048576 < s.size then -1 else 1048576 - (s.size : Int)
set_option maxRecDepth 100000 in
set_option maxHeartbeats 400000 in
theorem szKeyChain_any (s : ByteArray) (n : Int) (w : World) (hs : s.size ≤ maxLen) : Calls Tryd.prog 29 #[.agg #[.string s, .int .i64 n], .int .i64 1048576] w fun e w' => e = .returned (.int .i64 (lf s)) ∧ Below w.heap.size w w' := by
  unfold maxLen at hs
  by_cases h : 1048576 < s.size
  · have HE : Hid (lf s = -1) := if_pos h
    have h' : (1048576 : Int) - (s.size : Int) < 0 := by omega
    go_enter Tryd.func29, Tryd.ntmps29
    go_wp2
    go_ret
    exact ⟨ret_i HE.out.symm, newBel _ _⟩
  · have HE : Hid (lf s = 1048576 - (s.size : Int)) := if_neg h
    have h' : ¬ (1048576 : Int) - (s.size : Int) < 0 := by omega
    go_enter Tryd.func29, Tryd.ntmps29
    go_wp2
    go_ret
    exact ⟨ret_i HE.out.symm, newBel _ _⟩
theorem bel2 (w : World) (o1 o2 : Obj) : Below w.heap.size w ((w.alloc o1).alloc o2) := (newBel w o1).alloc (by simp) o2
set_option maxRecDepth 100000 in
set_option maxHeartbeats 400000 in
theorem eqKeyChain_same (s : ByteArray) (n : Int) (w : World) : Calls Tryd.prog 33 #[.agg #[.string s, .int .i64 n], .agg #[.string s, .int .i64 n]] w fun e w' => e = .returned (.bool true) ∧ Below w.heap.size w w' := by
  have h1 : (s.toList == s.toList) = true := by simp
  have h2 : (n != n) = false := by simp
  go_enter Tryd.func33, Tryd.ntmps33
  go_wp2
  go_ret
  exact ⟨rfl, bel2 _ _ _⟩
end Go.Proofs.YtjggfholjdplbaaDoor.Ck
