/- scale.Lasts, whole. -/
import Derived.Test.YtdpbfpmkegafcaaLastsB
namespace Go.Proofs.Ytdpbfpmkegafcaa.lasts
open Go.RowKit

/-- Where a bound stands when a drift has been added k times. -/
def L (x d : Int) (k : Nat) : Int := x + k * d
theorem L_zero (x d : Int) : L x d 0 = x := by simp [L]
theorem L_succ (x d : Int) (k : Nat) : L x d (k + 1) = L x d k + d := by
  unfold L; rw [Int.natCast_add, Int.add_mul]; omega
theorem L_bd (x d : Int) (x0 : -9 ≤ x) (x1 : x ≤ 9) (d0 : -3 ≤ d) (d1 : d ≤ 3) : ∀ k : Nat, k ≤ 12 → -9 - 3 * (k : Int) ≤ L x d k ∧ L x d k ≤ 9 + 3 * (k : Int)
  | 0, _ => by rw [L_zero]; omega
  | k + 1, h => by
    have := L_bd x d x0 x1 d0 d1 k (by omega)
    rw [L_succ]; omega

def In (x dx y dy l : Int) (k : Nat) : Prop := -l ≤ L x dx k ∧ L y dy k ≤ l

/-- What scale.Lasts answers: a number k - 1. -/
def Lasted (x dx y dy l : Int) (w : World) (e : Ending) (w' : World) : Prop :=
  ∃ k : Nat, k ≤ 11 ∧ e = .returned (.tuple #[.int .i64 ((k : Int) - 1), .int .i64 0]) ∧ Below w.heap.size w w' ∧ (∀ j, j < k → In x dx y dy l j) ∧ (k < 11 → ¬ In x dx y dy l k)

/-- Both of a call's own pairs. -/
@[reducible] def Pairs (g h : Nat) (x y dx dy : Int) (w u : World) : Prop :=
  u.cell? ⟨g, 0, none⟩ = some (.int .i64 x) ∧ u.cell? ⟨g, 1, none⟩ = some (.int .i64 y) ∧ u.cell? ⟨h, 0, none⟩ = some (.int .i64 dx) ∧ u.cell? ⟨h, 1, none⟩ = some (.int .i64 dy) ∧
    u.frozen? ⟨g, 0, none⟩ = false ∧ u.frozen? ⟨g, 1, none⟩ = false ∧ Below w.heap.size w u

theorem pairs_below {g h : Nat} {x y dx dy : Int} {w u v : World} (k : Below u.heap.size u v) (p : Pairs g h x y dx dy w u) : Pairs g h x y dx dy w v := by
  obtain ⟨a, b, c, d, e, f, r⟩ := p
  exact ⟨cell_below k (Nat.le_refl _) a, cell_below k (Nat.le_refl _) b, cell_below k (Nat.le_refl _) c, cell_below k (Nat.le_refl _) d,
    (k.frozen (p := ⟨g, 0, none⟩) (World.block_lt_of_cell? _ _ a)).trans e, (k.frozen (p := ⟨g, 1, none⟩) (World.block_lt_of_cell? _ _ b)).trans f, r.trans (k.mono r.size)⟩
theorem pairs_alloc {g h : Nat} {x y dx dy : Int} {w u : World} {o : Obj} (p : Pairs g h x y dx dy w u) : Pairs g h x y dx dy w (u.alloc o) :=
  pairs_below ((Below.refl _ _).alloc (Nat.le_refl _) _) p

theorem pairs_set {g : Nat} {x y x' y' dx dy : Int} {w u : World} (p : Pairs g (g + 1) x y dx dy w u) (hg : w.heap.size ≤ g := by exact Nat.le_refl _) :
    Pairs g (g + 1) x' y' dx dy w ((u.setCell ⟨g, 0, none⟩ (.int .i64 x')).setCell ⟨g, 1, none⟩ (.int .i64 y')) := by
  obtain ⟨a, b, c, d, e, f, r⟩ := p
  refine ⟨?_, ?_, ?_, ?_, ?_, ?_, (r.setCell (p := ⟨g, 0, none⟩) hg _).setCell (p := ⟨g, 1, none⟩) hg _⟩
  · exact (World.cell?_setCell_other _ _ _ _ (by simp)).trans (World.cell?_setCell_same _ _ _ a)
  · exact World.cell?_setCell_same _ _ _ ((World.cell?_setCell_other _ _ _ _ (by simp)).trans b)
  · exact ((World.cell?_setCell_other _ _ _ _ (by simp)).trans (World.cell?_setCell_other _ _ _ _ (by simp))).trans c
  · exact ((World.cell?_setCell_other _ _ _ _ (by simp)).trans (World.cell?_setCell_other _ _ _ _ (by simp))).trans d
  · simpa using e
  · simpa using f

theorem or3 (w : World) : Calls Try.prog 72 #[.slice (some ⟨w.heap.size, 0, none⟩) 3 3] (w.alloc (.cells #[.int .i64 0, .int .i64 0, .int .i64 0] 44)) fun e w' => e = .returned (.int .i64 0) ∧ (w.alloc (.cells #[.int .i64 0, .int .i64 0, .int .i64 0] 44)) = w' := by
  refine or0 w.heap.size 3 3 _ (by omega) ?_
  intro i hi
  refine cell_new _ _ _ _ _ ?_
  match i, hi with
  | 0, _ => rfl
  | 1, _ => rfl
  | 2, _ => rfl

set_option maxRecDepth 100000 in
set_option maxHeartbeats 1600000 in
theorem lasts (x y dx dy l : Int) (w : World) (x0 : -9 ≤ x) (xy : x ≤ y) (y1 : y ≤ 9) (d0 : -3 ≤ dx) (dd : dx ≤ dy) (d1 : dy ≤ 3) (l0 : 0 ≤ l) (l1 : l ≤ 100) :
    Calls Try.prog 37 #[.agg #[.int .i64 x, .int .i64 y], .agg #[.int .i64 dx, .int .i64 dy], .int .i64 l] w (Lasted x dx y dy l w) := by
  have hI : Hid (Pairs w.heap.size (w.heap.size + 1) x y dx dy w ((w.alloc (.cells #[.int .i64 x, .int .i64 y] 53)).alloc (.cells #[.int .i64 dx, .int .i64 dy] 53)).drew) := by
    have hz : (w.alloc (.cells #[.int .i64 x, .int .i64 y] 53)).heap.size = w.heap.size + 1 := by simp
    refine ⟨cell_old _ (cell_new _ _ _ _ _ rfl), cell_old _ (cell_new _ _ _ _ _ rfl), ?_, ?_, ?_, ?_, (((Below.refl _ _).alloc (Nat.le_refl _) _).alloc (by simp) _).drew⟩
    · rw [← hz]; exact cell_new _ _ _ _ _ rfl
    · rw [← hz]; exact cell_new _ _ _ _ _ rfl
    · simp
    · simp
  go_enter Try.func37, Try.ntmps37
  go_wp2_with fail
  go_region_held3 (fun u => u.cell? ⟨w.heap.size, 0, none⟩ = some (.int .i64 x) ∧ u.cell? ⟨w.heap.size, 1, none⟩ = some (.int .i64 y) ∧ u.cell? ⟨w.heap.size + 1, 0, none⟩ = some (.int .i64 dx) ∧ u.cell? ⟨w.heap.size + 1, 1, none⟩ = some (.int .i64 dy) ∧
      u.frozen? ⟨w.heap.size, 0, none⟩ = false ∧ u.frozen? ⟨w.heap.size, 1, none⟩ = false ∧ Below w.heap.size w u)
    (first | assumption | exact hI.out | (with_reducible refine pairs_alloc ?_; assumption) | (refine pairs_below hb1 ?_; first | assumption | exact hI.out))
    (first | (go_at_call 90; ((with_reducible refine (checkSpan _ _ _ (by omega) (by omega) (by omega)).mono ?_); rintro e w1 ⟨rfl, hb1⟩))
           | (go_at_call 80; ((with_reducible refine (within _ _ _ _ (by omega) (by omega)).mono ?_); rintro e w1 ⟨rfl, rfl⟩))
           | (go_at_call 72; ((with_reducible refine (or3 _).mono ?_); rintro e w1 ⟨rfl, rfl⟩)))
  have hP : Pairs w.heap.size (w.heap.size + 1) x y dx dy w (w1.alloc (.cells #[.int .i64 0, .int .i64 0, .int .i64 0] 44)) := by assumption
  have HP := Lib.hid hP
  clear hP hI
  go_wp2
  go_loopw [9] (fun i u => ∃ k : Nat, k ≤ 11 ∧ i = .int .i64 ((k : Int) - 1) ∧ Pairs w.heap.size (w.heap.size + 1) (L x dx k) (L y dy k) dx dy w u ∧ ∀ j, j < k → In x dx y dy l j) (fun i _ => (20 - (intOf i)).toNat)
  case atStart => exact ⟨0, by omega, by rfl, by rw [L_zero, L_zero]; exact HP.out, fun j hj => absurd hj (by omega)⟩
  case round =>
    obtain ⟨k, hk, rfl, ⟨c0, c1, c2, c3, f0, f1, hB⟩, hall⟩ := hrel
    have Hall := Lib.hid hall
    have HPr : Hid (Pairs w.heap.size (w.heap.size + 1) (L x dx k) (L y dy k) dx dy w wr) := ⟨c0, c1, c2, c3, f0, f1, hB⟩
    obtain ⟨bx0, bx1⟩ := L_bd x dx x0 (by omega) d0 (by omega) k (by omega)
    obtain ⟨by0, by1⟩ := L_bd y dy (by omega) y1 (by omega) d1 k (by omega)
    have sx := Lib.hid (L_succ x dx k)
    have sy := Lib.hid (L_succ y dy k)
    clear hall HP
    by_cases hk1 : (k : Int) - 1 < 10
    · by_cases hin : -l ≤ L x dx k ∧ L y dy k ≤ l
      · obtain ⟨i0, i1⟩ := hin
        go_wp2_with (go_at_call 86; refine (verdict_sure _ _ _ _ (by omega) (by omega) (by omega) (by omega)).mono ?_; rintro e w2 ⟨rfl, hb2⟩; (have HQ := Lib.hid (pairs_below hb2 HPr.out)); (obtain ⟨e0, e1, e2, e3, g0, g1, hB2⟩ := HQ.out))
        go_roundw
        case rel =>
          refine ⟨k + 1, by omega, by go_num, ?_, fun j hj => ?_⟩
          · rw [sx.out, sy.out]; exact pairs_set HQ.out
          · by_cases hj' : j < k
            · exact Hall.out j hj'
            · obtain rfl : j = k := by omega
              exact ⟨i0, i1⟩
        case measure => simp [intOf]; omega
      · have hnot : Hid (¬ In x dx y dy l k) := hin
        go_wp2_with (go_at_call 86; refine (verdict_not _ _ _ _ (by omega) (by omega) hin).mono ?_; rintro e w2 ⟨m, hm, rfl, hb2⟩; (have hm1 : (m == 1) = false := by rcases hm with rfl | rfl <;> rfl); clear hm hin; (have hB2 := Lib.hid (pairs_below hb2 HPr.out).2.2.2.2.2.2))
        go_goals
        go_ret2
        exact ⟨k, hk, rfl, hB2.out, Hall.out, fun _ => hnot.out⟩
    · go_wp2
      go_ret2
      exact ⟨k, hk, rfl, hB, Hall.out, fun h => absurd h (by omega)⟩

end Go.Proofs.Ytdpbfpmkegafcaa.lasts
