/- The law ScaleLasts, walked. -/
import Derived.Test.YtdpbfpmkegafcaaLastsC
import Derived.Test.YtdpbfpmkegafcaaDie3
import Derived.Test.YtdpbfpmkegafcaaAwake
import Derived.Deep.QuietTactic
import Derived.BigQuiet
namespace Go.Proofs.Ytdpbfpmkegafcaa.lasts
open Go.RowKit
open Go.Proofs.Ytdpbfpmkegafcaa.die (Die Stir)

/-- The die, and both spans behind it. -/
@[reducible] def Laid (g h : Nat) (x y dx dy : Int) (w u : World) : Prop :=
  (u.cell? ⟨h, 0, none⟩ = some (.int .i64 x) ∧ u.cell? ⟨h, 1, none⟩ = some (.int .i64 y) ∧ u.cell? ⟨h + 1, 0, none⟩ = some (.int .i64 dx) ∧ u.cell? ⟨h + 1, 1, none⟩ = some (.int .i64 dy)) ∧
    Die g u ∧ Below w.heap.size w u ∧ w.heap.size ≤ g ∧ g < h

theorem laid_below {g h : Nat} {x y dx dy : Int} {w u v : World} (k : Below u.heap.size u v) (p : Laid g h x y dx dy w u) : Laid g h x y dx dy w v := by
  obtain ⟨⟨a, b, c, d⟩, e, r, hg, hh⟩ := p
  refine ⟨⟨cell_below k (Nat.le_refl _) a, cell_below k (Nat.le_refl _) b, cell_below k (Nat.le_refl _) c, cell_below k (Nat.le_refl _) d⟩, ?_, r.trans (k.mono r.size), hg, hh⟩
  have hl := e.lt
  obtain ⟨⟨s, hs⟩, hf⟩ := e
  exact ⟨⟨s, cell_below k (Nat.le_refl _) hs⟩, (k.frozen (p := ⟨g, 0, none⟩) hl).trans hf⟩
theorem laid_stir {g h : Nat} {x y dx dy : Int} {w u v : World} (k : Stir g u v) (p : Laid g h x y dx dy w u) : Laid g h x y dx dy w v := by
  obtain ⟨⟨a, b, c, d⟩, e, r, hg, hh⟩ := p
  have n0 : h ≠ g := by omega
  have n1 : h + 1 ≠ g := by omega
  exact ⟨⟨(k.rest ⟨h, 0, none⟩ n0 (World.block_lt_of_cell? _ _ a)).1.trans a, (k.rest ⟨h, 1, none⟩ n0 (World.block_lt_of_cell? _ _ b)).1.trans b,
    (k.rest ⟨h + 1, 0, none⟩ n1 (World.block_lt_of_cell? _ _ c)).1.trans c, (k.rest ⟨h + 1, 1, none⟩ n1 (World.block_lt_of_cell? _ _ d)).1.trans d⟩, k.die, r.trans (k.below.mono hg), hg, hh⟩

theorem laid_start {g : Nat} {x y dx dy : Int} {w w1 w4 : World} (hB : Below w.heap.size w w1) (hw : w.heap.size ≤ g) (hs : Stir g w1 w4) :
    Laid g w4.heap.size x y dx dy w ((w4.alloc (.cells #[.int .i64 x, .int .i64 y] 53)).alloc (.cells #[.int .i64 dx, .int .i64 dy] 53)) := by
  have hz : (w4.alloc (.cells #[.int .i64 x, .int .i64 y] 53)).heap.size = w4.heap.size + 1 := by simp
  refine ⟨⟨cell_old _ (cell_new _ _ _ _ _ rfl), cell_old _ (cell_new _ _ _ _ _ rfl), ?_, ?_⟩, (hs.die.alloc _).alloc _, ?_, hw, hs.die.lt⟩
  · rw [← hz]; exact cell_new _ _ _ _ _ rfl
  · rw [← hz]; exact cell_new _ _ _ _ _ rfl
  · have h4 := hB.trans (hs.below.mono hw)
    exact (h4.alloc h4.size _).alloc (by simp; have := h4.size; omega) _

theorem below_drawn {B : Nat} {a w : World} (h : Below B a w) (n : Nat) : Below B a (w.drewN n) := h.trans ⟨rfl, rfl, rfl, Nat.le_refl _, fun _ _ => rfl⟩

set_option maxRecDepth 100000 in
set_option maxHeartbeats 3200000 in
theorem walk_any (a : Option Addr) (n c : Nat) (w : World) (hn : n ≤ maxLen) (hc : ∀ i, i < n → ∃ b o, a = some ⟨b, o, none⟩ ∧ ∃ v, w.cell? ⟨b, o + i, none⟩ = some (.int .i64 v)) :
    Calls Try.prog 12 #[.slice a n c] w fun e w' => e = .returned (.bool true) ∧ Below w.heap.size w w' := by
  have HC := Lib.hid hc
  clear hc
  go_enter Try.func12, Try.ntmps12
  go_wp2_with (first
    | (go_at_call 16; ((with_reducible refine (die.born _ _ _ _ hn HC.out).mono ?_); rintro e w1 ⟨rfl, hB1, hD1, hg1⟩))
    | (go_at_call 36; ((with_reducible refine (die.span _ (-9) 9 _ hD1 (by omega) (by omega) (by omega)).mono ?_); rintro e w2 ⟨x, y, x0, xy, y1, rfl, hs2⟩; have hD2 := hs2.die))
    | (go_at_call 36; ((with_reducible refine (die.span _ (-3) 3 _ hD2 (by omega) (by omega) (by omega)).mono ?_); rintro e w3 ⟨dx, dy, d0, dd, d1, rfl, hs3⟩; have hD3 := hs3.die))
    | (go_at_call 19; ((with_reducible refine (die.cast _ 30 _ hD3 (by omega) (by omega)).mono ?_); rintro e w4 ⟨l, ⟨l0, l1⟩, rfl, hs4⟩)))
  have hQ0 := Lib.hid (laid_start (x := x) (y := y) (dx := dx) (dy := dy) hB1 (Nat.le_refl _) ((hs2.trans hs3).trans hs4))
  clear hB1 hD1 hg1 hD2 hD3 hs2 hs3 hs4
  refine (lasts x y dx dy l _ x0 xy y1 d0 dd d1 l0 (by omega)).mono ?_
  rintro e w5 ⟨k, hk, rfl, hB5, hall, hlast⟩
  have hQ := Lib.hid (laid_below hB5 hQ0.out)
  have Hall := Lib.hid hall
  have Hlast := Lib.hid hlast
  clear hQ0 hB5 hall hlast
  obtain ⟨⟨c0, c1, c2, c3⟩, hD5, _⟩ := hQ.out
  have k0 : ¬ (k : Int) - 1 < -1 := by omega
  have k1 : ¬ (10 : Int) < (k : Int) - 1 := by omega
  go_wp2_with (go_at_call 53; ((with_reducible refine (die.truly _ x y _ hD5 (by omega) (by omega) (by omega)).mono ?_); rintro e w6 ⟨er, ⟨r0, r1⟩, rfl, hs6⟩))
  have hQ6 := Lib.hid (laid_stir hs6 hQ.out)
  clear hQ hs6 hD5 c0 c1 c2 c3
  have bx0 := Lib.hid (L_zero x dx)
  have by0 := Lib.hid (L_zero y dy)
  go_loopw [9, 10] (fun v i u => ∃ (j : Nat) (er : Int), j ≤ k ∧ i = .int .i64 j ∧ v = .int .i64 er ∧ L x dx j ≤ er ∧ er ≤ L y dy j ∧ Laid w.heap.size w4.heap.size x y dx dy w u) (fun _ i _ => (20 - intOf i).toNat)
  case atStart => exact ⟨0, er, Nat.zero_le _, rfl, rfl, by rw [bx0.out]; exact r0, by rw [by0.out]; exact r1, hQ6.out⟩
  case round =>
    obtain ⟨j, er1, hj, rfl, rfl, q0, q1, hQr⟩ := hrel
    have HQr := Lib.hid hQr
    clear hQr hQ6 bx0 by0
    by_cases hlt : j < k
    · obtain ⟨i0, i1⟩ := Hall.out j hlt
      obtain ⟨⟨c0, c1, c2, c3⟩, hD, _⟩ := HQr.out
      have sx := Lib.hid (L_succ x dx j)
      have sy := Lib.hid (L_succ y dy j)
      have t0 : ¬ er1 < -l := by omega
      have t1 : ¬ l < er1 := by omega
      have t2 : (j : Int) ≤ (k : Int) - 1 := by omega
      go_wp2_with (go_at_call 53; ((with_reducible refine (die.truly _ dx dy _ hD (by omega) (by omega) (by omega)).mono ?_); rintro e w7 ⟨d, ⟨s0, s1⟩, rfl, hs7⟩; have hQ7 := Lib.hid (laid_stir hs7 HQr.out)))
      go_roundw
      case rel => exact ⟨j + 1, er1 + d, by omega, by go_num, rfl, by rw [sx.out]; omega, by rw [sy.out]; omega, hQ7.out⟩
      case measure => simp [intOf]; omega
    · have t2 : ¬ (j : Int) ≤ (k : Int) - 1 := by omega
      obtain ⟨⟨c0, c1, c2, c3⟩, hD, hBr, _⟩ := HQr.out
      by_cases hk11 : k < 11
      · have hnot := Hlast.out hk11
        have hk2 : (k : Int) - 1 < 10 := by omega
        have bx := L_bd x dx x0 (by omega) d0 (by omega) k (by omega)
        have by_ := L_bd y dy (by omega) y1 (by omega) d1 k (by omega)
        unfold In at hnot
        unfold L at hnot bx by_
        obtain ⟨bx0, bx1⟩ := bx
        obtain ⟨by0, by1⟩ := by_
        have hk0 : (0 : Int) ≤ k := by omega
        have hx : ∃ X : Int, X = (k : Int) * dx ∧ -60 ≤ X ∧ X ≤ 60 := ⟨_, rfl, by omega, by omega⟩
        have hy : ∃ Y : Int, Y = (k : Int) * dy ∧ -60 ≤ Y ∧ Y ≤ 60 := ⟨_, rfl, by omega, by omega⟩
        obtain ⟨X, eX, X0, X1⟩ := hx
        obtain ⟨Y, eY, Y0, Y1⟩ := hy
        rw [← eX] at hnot
        rw [← eY] at hnot
        have w0 : IntKind.i64.wrap ((k : Int) - 1 + 1) = k := by rw [IntWalk.i64_in _ (by omega)]; omega
        have w1 : IntKind.i64.wrap ((k : Int) * dx) = X := by rw [← eX, IntWalk.i64_in _ (by omega)]
        have w2 : IntKind.i64.wrap ((k : Int) * dy) = Y := by rw [← eY, IntWalk.i64_in _ (by omega)]
        have w3 : IntKind.i64.wrap (x + X) = x + X := IntWalk.i64_in _ (by omega)
        have w4' : IntKind.i64.wrap (y + Y) = y + Y := IntWalk.i64_in _ (by omega)
        have hnot' := Lib.hid hnot
        clear hnot eX eY bx0 bx1 by0 by1
        go_wp2
        go_quiet (fail)
        clear w0 w1 w2 w3 w4' hk2
        have hB9 := Lib.hid (fun n => below_drawn hBr n)
        by_cases hp : x + X < -l
        · clear hnot'
          go_wp2_with (go_at_call 15; ((with_reducible refine (awake.plain _).mono ?_); rintro e w8 ⟨rfl, hB8⟩))
          go_ret
          exact ⟨rfl, (hB9.out _).trans (hB8.mono (hB9.out _).size)⟩
        · have hq : l < y + Y := by have := hnot'.out; omega
          clear hnot'
          go_wp2_with (go_at_call 15; ((with_reducible refine (awake.plain _).mono ?_); rintro e w8 ⟨rfl, hB8⟩))
          go_ret
          exact ⟨rfl, (hB9.out _).trans (hB8.mono (hB9.out _).size)⟩
      · have hk2 : ¬ (k : Int) - 1 < 10 := by omega
        go_wp2_with (go_at_call 15; ((with_reducible refine (awake.plain _).mono ?_); rintro e w8 ⟨rfl, hB8⟩))
        go_ret
        exact ⟨rfl, hBr.trans (hB8.mono hBr.size)⟩

end Go.Proofs.Ytdpbfpmkegafcaa.lasts
