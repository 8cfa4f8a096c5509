/- scale.checkSpan and scale.Lasts. -/
import Derived.Test.YtdpbfpmkegafcaaLastsA
namespace Go.Proofs.Ytdpbfpmkegafcaa.lasts
open Go.RowKit

set_option maxRecDepth 100000 in
set_option maxHeartbeats 800000 in
theorem span (x y m : Int) (w : World) (hm : m = -10000) (h0 : -10000 ≤ x) (h1 : x ≤ y) (h2 : y ≤ 10000) :
    Calls Try.prog 110 #[.agg #[.int .i64 x, .int .i64 y], .int .i64 m, .int .i64 10000] w fun e w' => e = .returned (.int .i64 0) ∧ Below w.heap.size w w' := by
  have hI : Hid ((w.alloc (.cells #[.int .i64 x, .int .i64 y] 53)).drew.cell? ⟨w.heap.size, 0, none⟩ = some (.int .i64 x) ∧ (w.alloc (.cells #[.int .i64 x, .int .i64 y] 53)).drew.cell? ⟨w.heap.size, 1, none⟩ = some (.int .i64 y) ∧ Below w.heap.size w (w.alloc (.cells #[.int .i64 x, .int .i64 y] 53)).drew) :=
    ⟨cell_new _ _ _ _ _ rfl, cell_new _ _ _ _ _ rfl, ((Below.refl _ _).alloc (Nat.le_refl _) _).drew⟩
  have hJ : Hid (((w.alloc (.cells #[.int .i64 x, .int .i64 y] 53)).alloc (.cells #[.int .i64 0, .int .i64 0] 44)).drew.cell? ⟨w.heap.size, 0, none⟩ = some (.int .i64 x) ∧ ((w.alloc (.cells #[.int .i64 x, .int .i64 y] 53)).alloc (.cells #[.int .i64 0, .int .i64 0] 44)).drew.cell? ⟨w.heap.size, 1, none⟩ = some (.int .i64 y) ∧ Below w.heap.size w ((w.alloc (.cells #[.int .i64 x, .int .i64 y] 53)).alloc (.cells #[.int .i64 0, .int .i64 0] 44)).drew) :=
    ⟨cell_old _ (cell_new _ _ _ _ _ rfl), cell_old _ (cell_new _ _ _ _ _ rfl), (((Below.refl _ _).alloc (Nat.le_refl _) _).alloc (by simp) _).drew⟩
  have hC : Hid (Calls Try.prog 72 #[.slice (some ⟨w.heap.size + 1, 0, none⟩) 2 2] ((w.alloc (.cells #[.int .i64 x, .int .i64 y] 53)).alloc (.cells #[.int .i64 0, .int .i64 0] 44)).drew fun e w' => e = .returned (.int .i64 0) ∧ ((w.alloc (.cells #[.int .i64 x, .int .i64 y] 53)).alloc (.cells #[.int .i64 0, .int .i64 0] 44)).drew = w') := by
    refine or0 (w.heap.size + 1) 2 2 _ (by omega) ?_
    have hz : (w.alloc (.cells #[.int .i64 x, .int .i64 y] 53)).heap.size = w.heap.size + 1 := by simp
    intro i hi
    rw [← hz]
    show (World.alloc _ _).cell? _ = _
    refine cell_new _ _ _ _ _ ?_
    match i, hi with
    | 0, _ => rfl
    | 1, _ => rfl
  go_enter Try.func110, Try.ntmps110
  go_wp2_with fail
  go_region_held3 (fun w' => w'.cell? ⟨w.heap.size, 0, none⟩ = some (.int .i64 x) ∧ w'.cell? ⟨w.heap.size, 1, none⟩ = some (.int .i64 y) ∧ Below w.heap.size w w')
    (first | assumption | exact hI.out | exact hJ.out)
    (first | (go_at_call 80; ((with_reducible refine (within _ _ _ _ (by omega) (by omega)).mono ?_); rintro e w1 ⟨rfl, rfl⟩))
           | (go_at_call 72; (with_reducible refine hC.out.mono ?_); rintro e w1 ⟨rfl, rfl⟩))
  obtain ⟨c0, c1, hB⟩ := hJ.out
  go_wp2
  go_ret
  exact ⟨rfl, hB⟩

set_option maxRecDepth 100000 in
theorem checkSpan (x y : Int) (w : World) (h0 : -10000 ≤ x) (h1 : x ≤ y) (h2 : y ≤ 10000) :
    Calls Try.prog 90 #[.agg #[.int .i64 x, .int .i64 y], .int .i64 10000] w fun e w' => e = .returned (.int .i64 0) ∧ Below w.heap.size w w' := by
  go_enter Try.func90, Try.ntmps90
  go_wp2_with (go_at_call 110; refine (span _ _ _ _ (by decide) h0 h1 h2).mono ?_; rintro e w1 ⟨rfl, hb1⟩)
  go_ret
  exact ⟨rfl, ((Below.refl _ _).alloc (Nat.le_refl _) _).trans (hb1.mono (by simp))⟩

end Go.Proofs.Ytdpbfpmkegafcaa.lasts
