/- How long a scale is surely within the limit: what scale.Lasts answers where its arguments are in their bounds. -/
import Derived.Test.YtdpbfpmkegafcaaProg
import Derived.Tactics
import Derived.Tactics2
import Derived.WalkKit
import Derived.OpenShut
import Derived.OwnWalk
import Derived.Below
import Derived.Lib.Hide
import Derived.Deep.RegionHeld3
import Derived.KernelRfl
namespace Go.Proofs.Ytdpbfpmkegafcaa.lasts
open Go.RowKit

theorem cell_new (w : World) (vs : Array Value) (t : TypeId) (i : Nat) (v : Value) (h : vs[i]? = some v) : (w.alloc (.cells vs t)).cell? ⟨w.heap.size, i, none⟩ = some v := by
  simp [h, go_sem]
theorem cell_old {w : World} {p : Addr} {v : Value} (o : Obj) (h : w.cell? p = some v) : (w.alloc o).cell? p = some v :=
  (World.cell?_of_block (Below.heap_alloc _ _ _ (World.block_lt_of_cell? _ _ h))).trans h
theorem cell_below {B : Nat} {u w : World} {p : Addr} {v : Value} (k : Below B u w) (hB : u.heap.size ≤ B) (h : u.cell? p = some v) : w.cell? p = some v :=
  (k.cell (Nat.lt_of_lt_of_le (World.block_lt_of_cell? _ _ h) hB)).trans h

set_option maxHeartbeats 400000 in
theorem within (n lo hi : Int) (w : World) (h0 : lo ≤ n) (h1 : n ≤ hi) : Calls Try.prog 80 #[.int .i64 n, .int .i64 lo, .int .i64 hi] w fun e w' => e = .returned (.int .i64 0) ∧ w = w' := by
  go_enter Try.func80, Try.ntmps80
  go_wp2
  go_ret
  exact ⟨rfl, rfl⟩

set_option maxHeartbeats 400000 in
theorem or0 (g n c : Nat) (w : World) (hn : n ≤ 1000) (hc : ∀ i, i < n → w.cell? ⟨g, i, none⟩ = some (.int .i64 0)) :
    Calls Try.prog 72 #[.slice (some ⟨g, 0, none⟩) n c] w fun e w' => e = .returned (.int .i64 0) ∧ w = w' := by
  have HC := Lib.hid hc
  clear hc
  go_enter Try.func72, Try.ntmps72
  go_wp2
  go_loop [8] (fun i => ∃ k : Nat, k ≤ n ∧ i = .int .i64 k) (fun i => n - (intOf i).toNat)
  case atStart => exact ⟨0, Nat.zero_le _, rfl⟩
  case round =>
    obtain ⟨k, hk, rfl⟩ := hrel
    by_cases hlt : k < n
    · have hck := HC.out k hlt
      have hk0 : (0 : Int) ≤ (k : Int) := by omega
      go_wp2
      go_round
      case rel => exact ⟨k + 1, by omega, by go_num⟩
      case measure => simp [intOf]; omega
    · go_wp2
      go_ret
      exact ⟨rfl, rfl⟩

set_option maxHeartbeats 400000 in
theorem verdict_sure (x y l : Int) (w : World) (l0 : 0 ≤ l) (l1 : l ≤ 10000) (h0 : -l ≤ x) (h1 : y ≤ l) : Calls Try.prog 86 #[.agg #[.int .i64 x, .int .i64 y], .int .i64 l] w fun e w' => e = .returned (.int .i64 1) ∧ Below w.heap.size w w' := by
  go_enter Try.func86, Try.ntmps86
  go_wp2
  go_ret
  exact ⟨rfl, (Below.refl _ _).alloc (Nat.le_refl _) _⟩

def NotSure (w : World) (e : Ending) (w' : World) : Prop := ∃ n : Int, (n = 2 ∨ n = 3) ∧ e = .returned (.int .i64 n) ∧ Below w.heap.size w w'
set_option maxHeartbeats 400000 in
theorem verdict_not (x y l : Int) (w : World) (l0 : 0 ≤ l) (l1 : l ≤ 10000) (h : ¬ (-l ≤ x ∧ y ≤ l)) : Calls Try.prog 86 #[.agg #[.int .i64 x, .int .i64 y], .int .i64 l] w (NotSure w) := by
  by_cases h0 : -l ≤ x
  · have h1 : ¬ y ≤ l := by omega
    clear h
    go_enter Try.func86, Try.ntmps86
    go_wp2
    all_goals
      go_ret
      exact ⟨_, by omega, rfl, (Below.refl _ _).alloc (Nat.le_refl _) _⟩
  · clear h
    go_enter Try.func86, Try.ntmps86
    go_wp2
    all_goals
      go_ret
      exact ⟨_, by omega, rfl, (Below.refl _ _).alloc (Nat.le_refl _) _⟩

end Go.Proofs.Ytdpbfpmkegafcaa.lasts
