/- The die that a law makes out of its numbers. -/
import Derived.Test.YtdpbfpmkegafcaaDie2
import Derived.StillTailTactics
namespace Go.Proofs.Ytdpbfpmkegafcaa.die
open Go.RowKit

def Born (w : World) (e : Ending) (w' : World) : Prop := e = .returned (.pointer (some ⟨w.heap.size, 0, none⟩)) ∧ Below w.heap.size w w' ∧ Die w.heap.size w' ∧ w.heap.size < w'.heap.size

theorem Die.born (w : World) (s : Int) (t : TypeId) : Die w.heap.size (w.alloc (.cells #[.int .u64 s] t)) := ⟨⟨s, cell_new _ _ _ _ _ rfl⟩, by simp⟩

set_option maxRecDepth 100000 in
set_option maxHeartbeats 1600000 in
theorem born (x : Option Addr) (n c : Nat) (w : World) (hn : n ≤ maxLen) (hc : ∀ i, i < n → ∃ b o, x = some ⟨b, o, none⟩ ∧ ∃ v, w.cell? ⟨b, o + i, none⟩ = some (.int .i64 v)) :
    Calls Try.prog 16 #[.slice x n c] w (Born w) := by
  unfold maxLen at hn
  have HC := Lib.hid hc
  clear hc
  have hdie := Lib.hid (Die.born w 2611923443488327891 100)
  go_enter Try.func16, Try.ntmps16
  go_wp2
  go_loopw [4] (fun i wr => ∃ k : Nat, k ≤ n ∧ i = .int .i64 k ∧ Stir w.heap.size (w.alloc (.cells #[.int .u64 2611923443488327891] 100)) wr) (fun i _ => n - (intOf i).toNat)
  case atStart => exact ⟨0, Nat.zero_le _, rfl, Stir.refl hdie.out⟩
  case round =>
    obtain ⟨k, hk, rfl, hs⟩ := hrel
    by_cases hlt : k < n
    · obtain ⟨b, o, rfl, v, hv⟩ := HC.out k hlt
      have hb := World.block_lt_of_cell? _ _ hv
      simp only at hb
      have hv1 : wr.cell? ⟨b, o + k, none⟩ = some (.int .i64 v) := ((hs.rest ⟨b, o + k, none⟩ (Nat.ne_of_lt hb) (by simp; omega)).1.trans (World.cell?_of_block (Below.heap_alloc _ _ _ hb))).trans hv
      clear hv
      obtain ⟨⟨s, hd⟩, hf⟩ := hs.die
      have hst := Lib.hid (fun s1 : Int => (hs.drew).trans (Stir.set hs.drew.die s1))
      have hlt' : (k : Int) < (n : Int) := by omega
      have hk0 : (0 : Int) ≤ (k : Int) := by omega
      go_wp2
      go_still_tail 12, (by kernel_rfl)
      change wpList _ _ _ _ _ wr.drew
      go_wp2_with (go_at_call 59; refine (roll _ _ ?_).mono ?_; exact (hst.out _).die; rintro e w1 ⟨r, hr, rfl, hs1⟩; (have hs2 := (hst.out _).trans hs1))
      go_roundw
      case rel => exact ⟨k + 1, by omega, by go_num, hs2⟩
      case measure => simp [intOf]; omega
    · go_wp2
      go_ret
      exact ⟨rfl, ((Below.refl w.heap.size w).alloc (Nat.le_refl _) _).trans hs.below, hs.die, by have := hs.below.size; simp at this; omega⟩

end Go.Proofs.Ytdpbfpmkegafcaa.die
