/- Spans that are drawn, and a number in a span. -/
import Derived.Test.YtdpbfpmkegafcaaDie
import Derived.Deep.RegionHeld3
import Derived.OwnWalk
namespace Go.Proofs.Ytdpbfpmkegafcaa.die
open Go.RowKit

theorem Die.lt {b : Nat} {w : World} (h : Die b w) : b < w.heap.size := by obtain ⟨⟨s, hs⟩, _⟩ := h; exact World.block_lt_of_cell? w _ hs
theorem Die.alloc {b : Nat} {w : World} (h : Die b w) (o : Obj) : Die b (w.alloc o) := by
  have hb := h.lt
  obtain ⟨⟨s, hs⟩, hf⟩ := h
  have hk := Below.heap_alloc w o b hb
  exact ⟨⟨s, (World.cell?_of_block (w := w) (a := ⟨b, 0, none⟩) hk).trans hs⟩, (World.frozen?_of_block (w := w) (a := ⟨b, 0, none⟩) hk).trans hf⟩
theorem Stir.alloc {b : Nat} {w w' : World} (h : Stir b w w') (o : Obj) : Stir b w (w'.alloc o) := by
  have hb := h.die.lt
  refine h.trans ⟨(Below.refl _ _).alloc (Nat.le_of_lt hb) o, fun p _ hp => ?_, h.die.alloc o⟩
  have hk := Below.heap_alloc w' o p.block hp
  exact ⟨World.cell?_of_block hk, World.frozen?_of_block hk⟩
theorem Stir.setNew {b : Nat} {w w' : World} (h : Stir b w w') (p : Addr) (v : Value) (hp : w.heap.size ≤ p.block) (hb : b < w.heap.size) : Stir b w (w'.setCell p v) := by
  have hne : p.block ≠ b := by omega
  have hk := Below.heap_setCell w' p v b (Ne.symm hne)
  obtain ⟨⟨s, hs⟩, hf⟩ := h.die
  refine ⟨h.below.setCell (by omega) v, fun q hq hlt => ?_, ⟨s, (World.cell?_of_block (w := w') (a := ⟨b, 0, none⟩) hk).trans hs⟩, (World.frozen?_of_block (w := w') (a := ⟨b, 0, none⟩) hk).trans hf⟩
  have hk := Below.heap_setCell w' p v q.block (by omega)
  exact ⟨(World.cell?_of_block hk).trans (h.rest q hq hlt).1, (World.frozen?_of_block hk).trans (h.rest q hq hlt).2⟩
theorem cell_new (w : World) (vs : Array Value) (t : TypeId) (i : Nat) (v : Value) (h : vs[i]? = some v) : (w.alloc (.cells vs t)).cell? ⟨w.heap.size, i, none⟩ = some v := by
  simp [h, go_sem]
theorem one3 (b : Nat) (x y z : Int) (Q : Int → Prop) (w : World) (h : Die b w) (qx : Q x) (qy : Q y) (qz : Q z) :
    Calls Try.prog 61 #[.pointer (some ⟨b, 0, none⟩), .slice (some ⟨w.heap.size, 0, none⟩) 3 3] (w.alloc (.cells #[.int .i64 x, .int .i64 y, .int .i64 z] 3)) (Gives b .i64 Q w) := by
  have hb := h.lt
  refine (one b w.heap.size 3 3 [x, y, z] _ (h.alloc _) rfl (by omega) (by omega) (by omega) (by simp) ?_).mono ?_
  · intro i hi
    refine cell_new _ _ _ _ _ ?_
    match i, hi with
    | 0, _ => rfl
    | 1, _ => rfl
    | 2, _ => rfl
  · rintro e w' ⟨r, hr, he, hs⟩
    refine ⟨r, ?_, he, ((Stir.refl h).alloc _).trans hs⟩
    simp only [List.mem_cons, List.not_mem_nil, or_false] at hr
    rcases hr with rfl | rfl | rfl <;> assumption
theorem one4in (b : Nat) (z u x y : Int) (w : World) (h : Die b w) (hh : x ≤ y) (u0 : x ≤ u) (u1 : u ≤ y) (z0 : x ≤ z) (z1 : z ≤ y) :
    Calls Try.prog 61 #[.pointer (some ⟨b, 0, none⟩), .slice (some ⟨w.heap.size, 0, none⟩) 4 4] (w.alloc (.cells #[.int .i64 x, .int .i64 y, .int .i64 z, .int .i64 u] 3))
      (Gives b .i64 (fun r => x ≤ r ∧ r ≤ y) (w.alloc (.cells #[.int .i64 x, .int .i64 y, .int .i64 z, .int .i64 u] 3))) := by
  have hb := h.lt
  refine (one b w.heap.size 4 4 [x, y, z, u] _ (h.alloc _) rfl (by omega) (by omega) (by omega) (by simp) ?_).mono ?_
  · intro i hi
    refine cell_new _ _ _ _ _ ?_
    match i, hi with
    | 0, _ => rfl
    | 1, _ => rfl
    | 2, _ => rfl
    | 3, _ => rfl
  · rintro e w' ⟨r, hr, he, hs⟩
    refine ⟨r, ?_, he, hs⟩
    simp only [List.mem_cons, List.not_mem_nil, or_false] at hr
    rcases hr with rfl | rfl | rfl | rfl <;> constructor <;> omega

def Spans (b : Nat) (lo hi : Int) (w : World) (e : Ending) (w' : World) : Prop := ∃ x y, lo ≤ x ∧ x ≤ y ∧ y ≤ hi ∧ e = .returned (.agg #[.int .i64 x, .int .i64 y]) ∧ Stir b w w'

set_option maxHeartbeats 800000 in
theorem span (b : Nat) (lo hi : Int) (w : World) (h : Die b w) (hl : -100000 ≤ lo) (hh : lo ≤ hi) (hm : hi ≤ 100000) : Calls Try.prog 36 #[.pointer (some ⟨b, 0, none⟩), .int .i64 lo, .int .i64 hi] w (Spans b lo hi w) := by
  have hb := h.lt
  have hS := (Stir.refl h).alloc (.cells #[.int .i64 0, .int .i64 0] 53)
  have hd := hS.die
  go_enter Try.func36, Try.ntmps36
  go_wp2_with (go_at_call 60; refine (from_ _ _ _ _ ?_ (by omega) (by omega) (by omega)).mono ?_; assumption; rintro e w1 ⟨x, ⟨x0, x1⟩, rfl, hs⟩)
  all_goals
    refine (one3 _ _ _ _ (fun r => x ≤ r ∧ r ≤ hi) _ hs.die (by omega) (by omega) (by omega)).mono ?_
    rintro e w2 ⟨m, ⟨m0, m1⟩, rfl, hs2⟩
    have hd2 := hs2.die
    go_wp2_with (go_at_call 60; refine (from_ _ _ _ _ ?_ (by omega) (by omega) (by omega)).mono ?_; assumption; rintro e w3 ⟨y, ⟨y0, y1⟩, rfl, hs3⟩; (have hs4 := (hs.trans hs2).trans hs3); (have c0 : w3.cell? ⟨w.heap.size, 0, none⟩ = some (.int .i64 0) := (hs4.rest ⟨w.heap.size, 0, none⟩ (Nat.ne_of_gt hb) (by simp)).1.trans (cell_new _ _ _ _ _ rfl)); (have c1 : w3.cell? ⟨w.heap.size, 1, none⟩ = some (.int .i64 0) := (hs4.rest ⟨w.heap.size, 1, none⟩ (Nat.ne_of_gt hb) (by simp)).1.trans (cell_new _ _ _ _ _ rfl)); (have f0 : w3.frozen? ⟨w.heap.size, 0, none⟩ = false := (hs4.rest ⟨w.heap.size, 0, none⟩ (Nat.ne_of_gt hb) (by simp)).2.trans (by simp)); (have f1 : w3.frozen? ⟨w.heap.size, 1, none⟩ = false := (hs4.rest ⟨w.heap.size, 1, none⟩ (Nat.ne_of_gt hb) (by simp)).2.trans (by simp)))
    refine bodyPost_ret (v := .agg #[.int .i64 x, .int .i64 y]) (by simp [results, Try.results36, go_sem, c0, c1]) rfl ⟨x, y, by omega, by omega, by omega, rfl, ?_⟩
    exact ((hS.trans hs4).setNew _ _ (Nat.le_refl _) hb).setNew _ _ (Nat.le_refl _) hb

theorem Stir.drew {b : Nat} {w w' : World} (h : Stir b w w') : Stir b w w'.drew := ⟨h.below.drew, h.rest, h.die⟩
/-- A pair of a call's own, beside the die. -/
def PairAt (g : Nat) (x y : Int) (w : World) : Prop := w.cell? ⟨g, 0, none⟩ = some (.int .i64 x) ∧ w.cell? ⟨g, 1, none⟩ = some (.int .i64 y)
theorem dieOf {b : Nat} {w u : World} (h : Stir b w u) : Die b u := h.die
theorem stirOf {A B : Prop} {b : Nat} {w u : World} (h : A ∧ B ∧ Stir b w u) : Stir b w u := h.2.2
theorem of3 {A B : Prop} {b : Nat} {w u : World} (h : A ∧ B ∧ Stir b w u) : Die b u := h.2.2.die
theorem pair_stir {b g : Nat} {x y : Int} {w u v : World} (k : Stir b u v) (h : u.cell? ⟨g, 0, none⟩ = some (.int .i64 x) ∧ u.cell? ⟨g, 1, none⟩ = some (.int .i64 y) ∧ Stir b w u) (hg : g ≠ b) :
    v.cell? ⟨g, 0, none⟩ = some (.int .i64 x) ∧ v.cell? ⟨g, 1, none⟩ = some (.int .i64 y) ∧ Stir b w v :=
  ⟨(k.rest ⟨g, 0, none⟩ hg (World.block_lt_of_cell? _ _ h.1)).1.trans h.1, (k.rest ⟨g, 1, none⟩ hg (World.block_lt_of_cell? _ _ h.2.1)).1.trans h.2.1, h.2.2.trans k⟩
theorem pair_alloc {b g : Nat} {x y : Int} {w u : World} {o : Obj} (h : u.cell? ⟨g, 0, none⟩ = some (.int .i64 x) ∧ u.cell? ⟨g, 1, none⟩ = some (.int .i64 y) ∧ Stir b w u) (hg : g ≠ b) :
    (u.alloc o).cell? ⟨g, 0, none⟩ = some (.int .i64 x) ∧ (u.alloc o).cell? ⟨g, 1, none⟩ = some (.int .i64 y) ∧ Stir b w (u.alloc o) :=
  pair_stir ((Stir.refl h.2.2.die).alloc o) h hg

set_option maxHeartbeats 800000 in
theorem truly (b : Nat) (x y : Int) (w : World) (h : Die b w) (hl : -100000 ≤ x) (hh : x ≤ y) (hm : y ≤ 100000) : Calls Try.prog 53 #[.pointer (some ⟨b, 0, none⟩), .agg #[.int .i64 x, .int .i64 y]] w (Gives b .i64 (fun r => x ≤ r ∧ r ≤ y) w) := by
  have hb := h.lt
  have hS := (Stir.refl h).alloc (.cells #[.int .i64 x, .int .i64 y] 53)
  have hg := Lib.hid (show w.heap.size ≠ b by omega)
  go_enter Try.func53, Try.ntmps53
  go_wp2_with fail
  go_region_held3 (fun w' => w'.cell? ⟨w.heap.size, 0, none⟩ = some (.int .i64 x) ∧ w'.cell? ⟨w.heap.size, 1, none⟩ = some (.int .i64 y) ∧ Stir b w w')
    (first | exact ⟨cell_new _ _ _ _ _ rfl, cell_new _ _ _ _ _ rfl, hS.drew⟩ | exact pair_alloc (by assumption) hg.out | exact pair_stir (by assumption) (by assumption) hg.out)
    (first | (go_at_call 60; refine (from_ _ _ _ _ ?_ (by omega) (by omega) (by omega)).mono ?_; exact of3 (by assumption); rintro e w1 ⟨r, ⟨r0, r1⟩, rfl, hs⟩)
           | (go_at_call 61; have hd := hs.die; refine (one4in _ _ _ x y _ hd hh r0 r1 ?_ ?_).mono ?_; assumption; assumption; rintro e w1 ⟨r, ⟨r0, r1⟩, rfl, hs⟩))
  go_wp2
  go_ret
  exact ⟨r, ⟨r0, r1⟩, rfl, stirOf (by assumption)⟩

end Go.Proofs.Ytdpbfpmkegafcaa.die
