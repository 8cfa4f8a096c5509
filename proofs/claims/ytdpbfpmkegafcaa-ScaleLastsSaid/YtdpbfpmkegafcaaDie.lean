/- The drawn numbers of the laws: what a die's calls do to memory, and in what bounds their answers lie. -/
import Derived.Test.YtdpbfpmkegafcaaProg
import Derived.Tactics
import Derived.Tactics2
import Derived.WalkKit
import Derived.OpenShut
import Derived.Below
import Derived.Lib.Hide
import Derived.KernelRfl
namespace Go.Proofs.Ytdpbfpmkegafcaa.die
open Go.RowKit

/-- A die lies in block b. -/
def Die (b : Nat) (w : World) : Prop := (∃ s, w.cell? ⟨b, 0, none⟩ = some (.int .u64 s)) ∧ w.frozen? ⟨b, 0, none⟩ = false

/-- Of what was there only the die's own block may have turned. -/
structure Stir (b : Nat) (w w' : World) : Prop where
  below : Below b w w'
  rest : ∀ p : Addr, p.block ≠ b → p.block < w.heap.size → w'.cell? p = w.cell? p ∧ w'.frozen? p = w.frozen? p
  die : Die b w'

def Gives (b : Nat) (k : IntKind) (Q : Int → Prop) (w : World) (e : Ending) (w' : World) : Prop := ∃ r, Q r ∧ e = .returned (.int k r) ∧ Stir b w w'

theorem bits_nonneg (op : BinOp) (x y : Int) : 0 ≤ bits op .u64 x y := by
  have := bounds_u64 (wf_bits (k := .u64) (op := op) (x := x) (y := y))
  exact this.1

theorem Stir.set {b : Nat} {w : World} (h : Die b w) (s : Int) : Stir b w (w.setCell ⟨b, 0, none⟩ (.int .u64 s)) := by
  obtain ⟨⟨t, ht⟩, hf⟩ := h
  refine ⟨(Below.refl b w).setCell (p := ⟨b, 0, none⟩) (Nat.le_refl b) _, fun p hp _ => ⟨World.cell?_of_block (Below.heap_setCell _ _ _ _ hp), World.frozen?_of_block (Below.heap_setCell _ _ _ _ hp)⟩, ⟨s, ?_⟩, ?_⟩
  · exact World.cell?_setCell_same _ _ _ ht
  · rw [World.frozen?_setCell]; exact hf

set_option maxHeartbeats 400000 in
theorem roll (b : Nat) (w : World) (h : Die b w) : Calls Try.prog 59 #[.pointer (some ⟨b, 0, none⟩)] w (Gives b .u64 (fun r => 0 ≤ r) w) := by
  have h' := Lib.hid h
  obtain ⟨⟨s, hs⟩, hf⟩ := h
  go_enter Try.func59, Try.ntmps59
  go_wp2
  go_ret
  exact ⟨_, bits_nonneg _ _ _, rfl, Stir.set h'.out _⟩

theorem Stir.refl {b : Nat} {w : World} (h : Die b w) : Stir b w w := ⟨Below.refl _ _, fun _ _ _ => ⟨rfl, rfl⟩, h⟩
theorem Stir.trans {b : Nat} {u v w : World} (h : Stir b u v) (k : Stir b v w) : Stir b u w :=
  ⟨h.below.trans k.below, fun p hp hb => ⟨(k.rest p hp (Nat.lt_of_lt_of_le hb h.below.size)).1.trans (h.rest p hp hb).1, (k.rest p hp (Nat.lt_of_lt_of_le hb h.below.size)).2.trans (h.rest p hp hb).2⟩, k.die⟩

set_option maxHeartbeats 400000 in
theorem cast_low (b : Nat) (n : Int) (w : World) (hn : n < 2) : Calls Try.prog 19 #[.pointer (some ⟨b, 0, none⟩), .int .i64 n] w fun e w' => e = .returned (.int .i64 0) ∧ w = w' := by
  go_enter Try.func19, Try.ntmps19
  go_wp2
  go_ret
  exact ⟨rfl, rfl⟩

set_option maxHeartbeats 400000 in
theorem cast_some (b : Nat) (n : Int) (w : World) (h : Die b w) (hn : 2 ≤ n) (hm : n ≤ 1000000) : Calls Try.prog 19 #[.pointer (some ⟨b, 0, none⟩), .int .i64 n] w (Gives b .i64 (fun r => 0 ≤ r ∧ r < n) w) := by
  go_enter Try.func19, Try.ntmps19
  go_wp2_with (go_at_call 59; refine (roll _ _ ?_).mono ?_; assumption; rintro e w1 ⟨r, hr, rfl, hs⟩)
  have q0 := Int.emod_nonneg (r / 4) (show n ≠ 0 by omega)
  have q1 := Int.emod_lt_of_pos (r / 4) (show 0 < n by omega)
  go_ret
  refine ⟨r / 4 % n, ⟨q0, q1⟩, ?_, hs⟩
  show Ending.returned (.int .i64 (wrap64 (r / 4 % n))) = _
  rw [IntWalk.wrap64_in _ (by omega)]

theorem cast (b : Nat) (n : Int) (w : World) (h : Die b w) (hn : 1 ≤ n) (hm : n ≤ 1000000) : Calls Try.prog 19 #[.pointer (some ⟨b, 0, none⟩), .int .i64 n] w (Gives b .i64 (fun r => 0 ≤ r ∧ r < n) w) := by
  by_cases h2 : n < 2
  · exact (cast_low b n w h2).mono fun e w' ⟨he, hw⟩ => ⟨0, by omega, he, hw ▸ Stir.refl h⟩
  · exact cast_some b n w h (by omega) hm

set_option maxHeartbeats 400000 in
theorem from_ (b : Nat) (lo hi : Int) (w : World) (h : Die b w) (hl : -100000 ≤ lo) (hh : lo ≤ hi) (hm : hi ≤ 100000) : Calls Try.prog 60 #[.pointer (some ⟨b, 0, none⟩), .int .i64 lo, .int .i64 hi] w (Gives b .i64 (fun r => lo ≤ r ∧ r ≤ hi) w) := by
  go_enter Try.func60, Try.ntmps60
  go_wp2_with (go_at_call 19; refine (cast _ _ _ ?_ (by omega) (by omega)).mono ?_; assumption; rintro e w1 ⟨r, hr, rfl, hs⟩)
  obtain ⟨r0, r1⟩ := hr
  go_ret
  exact ⟨lo + r, by omega, rfl, hs⟩

set_option maxHeartbeats 400000 in
theorem one (b g n cap : Nat) (z : List Int) (w : World) (h : Die b w) (hz : z.length = n) (h0 : 0 < n) (hn : n ≤ 1000) (hb : g ≠ b) (hg : g < w.heap.size)
    (hc : ∀ i, i < n → w.cell? ⟨g, i, none⟩ = some (.int .i64 (z.getD i 0))) :
    Calls Try.prog 61 #[.pointer (some ⟨b, 0, none⟩), .slice (some ⟨g, 0, none⟩) n cap] w (Gives b .i64 (fun r => r ∈ z) w) := by
  have H := Lib.hid hz
  have HC := Lib.hid hc
  clear hz hc
  have h1 : ¬ (n : Int) = 0 := by omega
  go_enter Try.func61, Try.ntmps61
  go_wp2_with (go_at_call 19; refine (cast _ _ _ ?_ (by omega) (by omega)).mono ?_; assumption; rintro e w1 ⟨r, ⟨r0, r1⟩, rfl, hs⟩; (obtain ⟨k, rfl⟩ := Int.eq_ofNat_of_zero_le r0); (have hk := HC.out k (by omega)); (rw [← (hs.rest ⟨g, k, none⟩ hb hg).1] at hk))
  go_ret
  exact ⟨_, by (show z.getD k 0 ∈ z; rw [List.getD_eq_getElem?_getD, List.getElem?_eq_getElem (by have := H.out; omega)]; simp), rfl, hs⟩

end Go.Proofs.Ytdpbfpmkegafcaa.die
