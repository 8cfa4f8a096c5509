/- What more ice, and what is known better, does to warmth and losses. -/
import Derived.Test.YthambbefgbhnkaaM4
import Derived.Test.YthambbefgbhnkaaM5
import Derived.Test.YthambbefgbhnkaaCodes
import Derived.Test.YthambbefgbhnkaaAbsPiece
import Derived.Test.YthambbefgbhnkaaProg
import Derived.Tactics
import Derived.Tactics2
import Derived.WalkKit
import Derived.OpenShut
import Derived.Below
import Derived.Lib.Hide
import Derived.KernelRfl
import Derived.Deep.RegionHeld3
import Derived.OwnWalk
import Derived.StillTailTactics
import Derived.Test.YthambbefgbhnkaaAbsTop
import Derived.Test.YthambbefgbhnkaaAbsWalk
import Derived.Test.YthambbefgbhnkaaM1
import Derived.Test.YthambbefgbhnkaaAwake
import Derived.Test.YthambbefgbhnkaaWalkAll
set_option linter.unusedSimpArgs false
set_option linter.unusedVariables false
set_option maxRecDepth 10000
namespace Go.Proofs.Ythambbefgbhnkaa.walk
open Go.Abs

/-! ### One end of the ice -/
/-- Ice behind the fillings of an hour. -/
def fill1 (room hour : Int) : Int → List (Int × Int) → Int
  | i, [] => i
  | i, (h, g) :: r => if h = hour then fill1 room hour (min (i + g) room) r else i
/-- Ice in an hour, if so much melts in each. -/
def lev (room : Int) (melt : Int → Int) : Nat → Int → Int → List (Int × Int) → Int
  | 0, hour, i, fs => fill1 room hour i fs
  | k + 1, hour, i, fs => lev room melt k (hour + 1) (max 0 (fill1 room hour i fs - melt hour)) (left hour fs)
theorem fill_fill1 : ∀ (fs : List (Int × Int)) (x : BoxNow), (x.fill fs).i0 = fill1 x.room x.hour x.i0 fs ∧ (x.fill fs).i1 = fill1 x.room x.hour x.i1 fs
  | [], x => ⟨rfl, rfl⟩
  | (h, g) :: r, x => by
    unfold BoxNow.fill fill1
    by_cases e : h = x.hour
    · rw [if_pos e, if_pos e, if_pos e]
      exact fill_fill1 r (x.put g)
    · rw [if_neg e, if_neg e, if_neg e]
      exact ⟨rfl, rfl⟩
theorem ices_lev : ∀ (m k : Nat) (x : BoxNow) (fs : List (Int × Int)), k < m → (ices m x fs).getD k (0, 0) = (lev x.room (fun _ => x.m1) k x.hour x.i0 fs, lev x.room (fun _ => x.m0) k x.hour x.i1 fs)
  | 0, k, x, fs, h => absurd h (Nat.not_lt_zero k)
  | m + 1, 0, x, fs, h => by
    obtain ⟨h1, h2⟩ := fill_fill1 fs x
    unfold ices lev
    rw [List.getD_cons_zero, h1, h2]
  | m + 1, k + 1, x, fs, h => by
    obtain ⟨h1, h2⟩ := fill_fill1 fs x
    obtain ⟨⟨q1, q2, q3, _⟩, q8⟩ := x.fill_like fs
    unfold ices
    rw [List.getD_cons_succ, ices_lev m k (x.on fs) (left x.hour fs) (by omega)]
    have e1 : (x.on fs).room = x.room := q1
    have e2 : (x.on fs).m1 = x.m1 := q3
    have e3 : (x.on fs).m0 = x.m0 := q2
    have e4 : (x.on fs).hour = x.hour + 1 := by show (x.fill fs).hour + 1 = _; rw [q8]
    have e5 : (x.on fs).i0 = max 0 (fill1 x.room x.hour x.i0 fs - x.m1) := by show max 0 ((x.fill fs).i0 - (x.fill fs).m1) = _; rw [h1, q3]
    have e6 : (x.on fs).i1 = max 0 (fill1 x.room x.hour x.i1 fs - x.m0) := by show max 0 ((x.fill fs).i1 - (x.fill fs).m0) = _; rw [h2, q2]
    rw [e1, e2, e3, e4, e5, e6]
    rfl
theorem fill1_mono {room room' hour : Int} (hr : room ≤ room') : ∀ (fs : List (Int × Int)) (i i' : Int), i ≤ i' → fill1 room hour i fs ≤ fill1 room' hour i' fs
  | [], i, i', h => h
  | (h0, g) :: r, i, i', h => by
    unfold fill1
    by_cases e : h0 = hour
    · rw [if_pos e, if_pos e]
      exact fill1_mono hr r _ _ (by omega)
    · rw [if_neg e, if_neg e]; exact h
theorem lev_mono {room room' : Int} {melt melt' : Int → Int} (hr : room ≤ room') (hm : ∀ h, melt' h ≤ melt h) : ∀ (k : Nat) (hour i i' : Int) (fs : List (Int × Int)), i ≤ i' → lev room melt k hour i fs ≤ lev room' melt' k hour i' fs
  | 0, hour, i, i', fs, h => fill1_mono hr fs i i' h
  | k + 1, hour, i, i', fs, h => by
    unfold lev
    have h1 := fill1_mono (hour := hour) hr fs i i' h
    have h2 := hm hour
    exact lev_mono hr hm k (hour + 1) _ _ _ (by omega)

/-! ### A cellar's boxes, hour by hour -/
def Cellar.box (c : Cellar) (b : Nat) : Box := c.boxes.getD b noBox
/-- The fillings of a box. -/
def Cellar.of (c : Cellar) (b : Nat) : List (Int × Int) := (ofBox b c.fills).map fun f => (f.hour, f.grams)
def Cellar.iceLo (c : Cellar) (b k : Nat) : Int := lev (c.box b).room (fun _ => (c.box b).mh) k 0 (c.box b).il (c.of b)
def Cellar.iceHi (c : Cellar) (b k : Nat) : Int := lev (c.box b).room (fun _ => (c.box b).ml) k 0 (c.box b).ih (c.of b)
def Cellar.warm (c : Cellar) (b k : Nat) : Int × Int := (if 0 < c.iceHi b k then (c.box b).cl else (c.box b).wl, if 0 < c.iceLo b k then (c.box b).ch else (c.box b).wh)
theorem warmW_eq (c : Cellar) (b k : Nat) (hb : b < c.boxes.length) (hk : k < 240) : warmW (tabsOf c.boxes c.fills c.boxes.length) k b = c.warm b k := by
  unfold warmW
  rw [Int.toNat_natCast, Int.toNat_natCast]
  unfold tabsOf
  have e0 : ((List.range c.boxes.length).map fun j => tabOf (c.boxes.getD j noBox) c.fills j).getD b [] = tabOf (c.box b) c.fills b := by
    rw [List.getD_eq_getElem?_getD, List.getElem?_map, List.getElem?_range hb]; rfl
  rw [e0]
  unfold tabOf
  have hl : k < (ices 240 (c.box b).start (c.of b)).length := by rw [ices_len]; exact hk
  have e := ices_lev 240 k (c.box b).start (c.of b) hk
  rw [List.getD_eq_getElem?_getD, List.getElem?_eq_getElem hl] at e
  rw [List.getD_eq_getElem?_getD, List.getElem?_map]
  show (((ices 240 (c.box b).start (c.of b))[k]?.map _).getD (0, 0)) = _
  rw [List.getElem?_eq_getElem hl]
  simp only [Option.getD_some] at e
  simp only [Option.map_some, Option.getD_some]
  rw [e]
  rfl
/-- The warmth around a lot in an hour. -/
def Cellar.at (c : Cellar) (l : Lot) (k : Nat) : Int × Int := match l.stays.find? (hit k) with
  | some t => c.warm t.box.toNat k
  | none => (c.hl, c.hh)
theorem Cellar.warmAt_eq (c : Cellar) (l : Lot) (okl : l.Ok c.boxes.length) (k : Nat) (hk : k < 240) : warmAt (tabsOf c.boxes c.fills c.boxes.length) l.stays c.hl c.hh k = c.at l k := by
  unfold warmAt aroundOf Cellar.at
  cases hf : l.stays.find? (hit k) with
  | none => rfl
  | some t =>
    have ht := okl.sok t (List.mem_of_find?_eq_some hf)
    obtain ⟨b, hb⟩ : ∃ b : Nat, t.box = b := ⟨t.box.toNat, by have := ht.b0; omega⟩
    have := warmW_eq c b k (by have := ht.b1; omega) hk
    simp only [hb, Int.toNat_natCast]
    exact this

/-! ### Losses -/
theorem lossFrom_up (rs : List Rate) (ro : ∀ i (h : i < rs.length), (rateBefore rs i).above < (rs[i]).above ∧ (rateBefore rs i).loss ≤ (rs[i]).loss) (t t' : Int) (h : t ≤ t') :
    ∀ m j : Nat, j + m = rs.length → (rateBefore rs j).loss ≤ lossFrom t' (rateBefore rs j).loss (rs.drop j) ∧ lossFrom t (rateBefore rs j).loss (rs.drop j) ≤ lossFrom t' (rateBefore rs j).loss (rs.drop j)
  | 0, j, hm => by
    rw [List.drop_of_length_le (by omega)]
    exact ⟨Int.le_refl _, Int.le_refl _⟩
  | m + 1, j, hm => by
    have hj : j < rs.length := by omega
    have ih := lossFrom_up rs ro t t' h m (j + 1) (by omega)
    have hb : rateBefore rs (j + 1) = rs[j] := by simp only [rateBefore, List.getElem?_eq_getElem hj]
    rw [hb] at ih
    rw [List.drop_eq_getElem_cons hj]
    have r1 := (ro j hj).2
    unfold lossFrom
    by_cases e : t' < (rs[j]).above
    · rw [if_pos e, if_pos (by omega)]
      exact ⟨Int.le_refl _, Int.le_refl _⟩
    · rw [if_neg e]
      by_cases e2 : t < (rs[j]).above
      · rw [if_pos e2]
        exact ⟨by omega, by omega⟩
      · rw [if_neg e2]
        exact ⟨by omega, ih.2⟩
theorem lossFrom_mono (rs : List Rate) (ro : ∀ i (h : i < rs.length), (rateBefore rs i).above < (rs[i]).above ∧ (rateBefore rs i).loss ≤ (rs[i]).loss) (t t' : Int) (h : t ≤ t') : lossFrom t 0 rs ≤ lossFrom t' 0 rs := by
  have := (lossFrom_up rs ro t t' h rs.length 0 (by omega)).2
  rw [List.drop_zero] at this
  exact this
theorem total_le {f g : Int × Int → Int} {u v : Nat → Int × Int} : ∀ m : Nat, (∀ i, i < m → f (u i) ≤ g (v i)) → total f ((List.range m).map u) ≤ total g ((List.range m).map v)
  | 0, _ => Int.le_refl _
  | m + 1, h => by
    rw [List.range_succ, List.map_append, List.map_append]
    show total f (_ ++ [u m]) ≤ total g (_ ++ [v m])
    rw [total_snoc, total_snoc]
    have h1 := total_le (f := f) (g := g) (u := u) (v := v) m fun i hi => h i (by omega)
    have h2 := h m (by omega)
    omega
/-- The sums of one end, told of two cellars with the same rates. -/
theorem Cellar.lost_le (c d : Cellar) (okc : c.Ok) (hr : c.rates = d.rates) (l : Lot) (okl : l.Ok c.boxes.length) (okd : l.Ok d.boxes.length) (m : Nat) (hm : l.born + m ≤ 240) :
    ((∀ k, k < 240 → (c.at l k).1 ≤ (d.at l k).1) → (c.lost l m).1 ≤ (d.lost l m).1) ∧ ((∀ k, k < 240 → (c.at l k).2 ≤ (d.at l k).2) → (c.lost l m).2 ≤ (d.lost l m).2) := by
  have b0 := okl.b0
  have key : ∀ i : Nat, i < m → warmAt (tabsOf c.boxes c.fills c.boxes.length) l.stays c.hl c.hh (l.born + (i : Int)) = c.at l (l.born + i).toNat ∧ warmAt (tabsOf d.boxes d.fills d.boxes.length) l.stays d.hl d.hh (l.born + (i : Int)) = d.at l (l.born + i).toNat := fun i hi => by
    have e : l.born + (i : Int) = ((l.born + i).toNat : Int) := by omega
    rw [e, Int.toNat_natCast]
    exact ⟨c.warmAt_eq l okl _ (by omega), d.warmAt_eq l okd _ (by omega)⟩
  refine ⟨fun h => ?_, fun h => ?_⟩
  · unfold Cellar.lost Cellar.warms walk.warms lostLo
    rw [← hr]
    refine total_le m fun i hi => ?_
    rw [(key i hi).1, (key i hi).2]
    exact lossFrom_mono _ okc.ro _ _ (h _ (by omega))
  · unfold Cellar.lost Cellar.warms walk.warms lostHi
    rw [← hr]
    refine total_le m fun i hi => ?_
    rw [(key i hi).1, (key i hi).2]
    exact lossFrom_mono _ okc.ro _ _ (h _ (by omega))
theorem Cellar.lost_up (c : Cellar) (ok : c.Ok) (l : Lot) (m : Nat) : ∀ k : Nat, (c.lost l m).1 ≤ (c.lost l (m + k)).1 ∧ (c.lost l m).2 ≤ (c.lost l (m + k)).2
  | 0 => ⟨Int.le_refl _, Int.le_refl _⟩
  | k + 1 => by
    have h1 := Cellar.lost_up c ok l m k
    have hw : ∃ w, c.warms l (m + k + 1) = c.warms l (m + k) ++ [w] := by
      unfold Cellar.warms walk.warms
      rw [List.range_succ, List.map_append]
      exact ⟨_, rfl⟩
    obtain ⟨w, hw⟩ := hw
    unfold Cellar.lost lostLo lostHi at h1 ⊢
    rw [← Nat.add_assoc, hw, total_snoc, total_snoc]
    have h2 := (lossFrom_range w.1 c.rates 0 ok.rok ⟨Int.le_refl _, by omega⟩).1
    have h3 := (lossFrom_range w.2 c.rates 0 ok.rok ⟨Int.le_refl _, by omega⟩).1
    simp only at h1 ⊢
    omega
end Go.Proofs.Ythambbefgbhnkaa.walk
set_option maxRecDepth 10000
namespace Go.Proofs.Ythambbefgbhnkaa.walk
open Go.Abs Go.Proofs.Ythambbefgbhnkaa.code

set_option maxHeartbeats 4000000 in
theorem HourOf_ex {N d : Nat} {s : St} {r : ARes} {born keeps : Int} {v4 : AV} (hr : call Try.prog X N (.fn 13) [.ptr d 0, .agg [.int .i64 born, .int .i64 keeps, v4]] s = r) (hN : 6 ≤ N) (hd : Die d s.h) (hdn : d < s.n) (hs : s.n + 1000 ≤ far) (hb : 0 ≤ born ∧ born ≤ 240) :
    ∃ (h : Int) (t : St), r = .val (.int .i64 h) t ∧ Stir d s t 10 ∧ Die d t.h ∧ born ≤ h ∧ h ≤ 240 := by
  obtain ⟨n, rfl⟩ : ∃ n, N = n + 1 := ⟨N - 1, by omega⟩
  have hff : far = 1000000000 := rfl
  obtain ⟨v, t, e, st, ⟨h, rfl, h0, h1⟩, hd'⟩ := call_stir_plain (n := n) (args := [.ptr d 0, .agg [.int .i64 born, .int .i64 keeps, v4]]) (d := d) (k := 10) (Q := fun v => ∃ h : Int, v = .int .i64 h ∧ born ≤ h ∧ h ≤ 240) (R := Die d) Try.func13 hd (fun u uh un um => by
    rw [← uh] at hd
    rw [enter13]
    simp (disch := first | omega | (with_unfolding_all exact rfl) | (simp only [new_n, put_n, new_m]; omega) | (refine put_m_le ?_; simp only [new_m]; omega)) only [res13, K13, K13r0, walk0, walk1, walk2, walk3, walk4, walk5, walk6, walk7, List.nil_append, List.append_nil, List.cons_append, reduceIte, Nat.reduceEqDiff, Nat.reduceAdd, Bool.not_true, Bool.not_false, decide_true, decide_false, kLoop_def, Nat.reduceSub, List.length_cons, List.length_nil]
    obtain ⟨w, hw⟩ : ∃ w : St, w = u.new (.cells [.int .i64 born, .int .i64 keeps, v4] (tag 35)) := ⟨_, rfl⟩
    rw [← hw]
    have wn : w.n = u.n + 1 := by rw [hw]; rfl
    have wm : w.m = far := by rw [hw]; exact um
    have wg : ∀ c, c < u.n → w.h.get c = u.h.get c := fun c hc => by rw [hw, get_new_ne _ _ _ (by omega)]
    have w0 : w.h.get u.n = some (.cells [.int .i64 born, .int .i64 keeps, v4] (tag 35)) := by rw [hw]; exact get_new_eq _ _ _ rfl (by omega)
    have dw : Die d w.h := by obtain ⟨f, hg⟩ := hd; exact ⟨f, by rw [wg _ (by omega)]; exact hg⟩
    simp (disch := first | omega | (with_unfolding_all exact rfl) | (simp only [new_n, put_n, new_m]; omega) | (refine put_m_le ?_; simp only [new_m]; omega)) only [K13r1, walk0, walk1, walk2, walk3, walk4, walk5, walk6, walk7, List.nil_append, List.append_nil, List.cons_append, reduceIte, Nat.reduceEqDiff, Nat.reduceAdd, Bool.not_true, Bool.not_false, decide_true, decide_false, kLoop_def, Nat.reduceSub, List.length_cons, List.length_nil, Env.find_set, w0]
    obtain ⟨y, hy⟩ : ∃ y : St, y = w.new (.cells [.int .i64 6, .int .i64 30, .int .i64 60] 0) := ⟨_, rfl⟩
    rw [← hy]
    have yn : y.n = w.n + 1 := by rw [hy]; rfl
    have ym : y.m = far := by rw [hy]; exact wm
    have yg : ∀ c, c < w.n → y.h.get c = w.h.get c := fun c hc => by rw [hy, get_new_ne _ _ _ (by omega)]
    have y0 := (yg u.n (by omega)).trans w0
    have y1 : y.h.get w.n = some (.cells [.int .i64 6, .int .i64 30, .int .i64 60] 0) := by rw [hy]; exact get_new_eq _ _ _ rfl (by omega)
    have dy : Die d y.h := by obtain ⟨f, hg⟩ := dw; exact ⟨f, by rw [yg _ (by omega)]; exact hg⟩
    generalize hc1 : call _ _ _ (.fn 32) _ _ = r1
    obtain ⟨x1, t1, rfl, st1, d1, m1⟩ := one_ex [6, 30, 60] hc1 (by omega) dy (by show d < y.n; omega) (by show y.n + 200 ≤ far; omega) y1 (by show w.n < y.n; omega) (by omega) rfl (by omega) (by omega)
    have x1r : x1 = 6 ∨ x1 = 30 ∨ x1 = 60 := by simpa using m1
    have n1 : y.n ≤ t1.n := st1.n
    have k1 : t1.n ≤ y.n := st1.le
    have p1 : t1.h.get u.n = some (.cells [.int .i64 born, .int .i64 keeps, v4] (tag 35)) := (st1.same u.n (by show u.n < y.n; omega) (by omega)).trans y0
    simp (disch := first | omega | (with_unfolding_all exact rfl) | (simp only [new_n, put_n, new_m]; omega) | (refine put_m_le ?_; simp only [new_m]; omega)) only [K13r1, walk0, walk1, walk2, walk3, walk4, walk5, walk6, walk7, List.nil_append, List.append_nil, List.cons_append, reduceIte, Nat.reduceEqDiff, Nat.reduceAdd, Bool.not_true, Bool.not_false, decide_true, decide_false, kLoop_def, Nat.reduceSub, List.length_cons, List.length_nil, Env.find_set, thenT_turn]
    generalize hc2 : call _ _ _ (.fn 14) _ _ = r2
    obtain ⟨x2, t2, rfl, st2, d2, x20, x21⟩ := cast_ex hc2 (by omega) d1 (by show d < t1.n; omega) (by show t1.n + 100 ≤ far; omega) (by omega)
    have n2 : t1.n ≤ t2.n := st2.n
    have k2 : t2.n ≤ t1.n := st2.le
    have p2 : t2.h.get u.n = some (.cells [.int .i64 born, .int .i64 keeps, v4] (tag 35)) := (st2.same u.n (by show u.n < t1.n; omega) (by omega)).trans p1
    have a2 : ∀ s, aAdd s .i64 born x2 = .val (.int .i64 (born + x2)) s := fun s => aAdd_i64 s _ _ (by omega)
    simp (disch := first | omega | (with_unfolding_all exact rfl) | (simp only [new_n, put_n, new_m]; omega) | (refine put_m_le ?_; simp only [new_m]; omega)) only [K13r1, walk0, walk1, walk2, walk3, walk4, walk5, walk6, walk7, List.nil_append, List.append_nil, List.cons_append, reduceIte, Nat.reduceEqDiff, Nat.reduceAdd, Bool.not_true, Bool.not_false, decide_true, decide_false, kLoop_def, Nat.reduceSub, List.length_cons, List.length_nil, Env.find_set, thenT_turn, a2, kFold_def, foldA_nil, foldA_cons, minA_i64]
    have kp : ∀ (a b : Heap) (M : Env), M.find 5 = .ptr u.n 0 → a.get u.n = some (.cells [.int .i64 born, .int .i64 keeps, v4] (tag 35)) → b.get u.n = some (.cells [.int .i64 born, .int .i64 keeps, v4] (tag 35)) → keptAll a b M [5] = true := fun a b M h1 h2 h3 => by
      simp only [keptAll_cons, keptAll_nil, h1, keptV_ptr, h2, h3, sameO_cells, Bool.and_self]
    rw [endT_kept (s := ⟨t1.h, t1.n, minN y.m t1.m⟩) (kp _ _ _ (by simp only [find_cons, reduceIte, Nat.reduceEqDiff]) p1 p2), endT_kept (kp _ _ _ (by simp only [find_cons, reduceIte, Nat.reduceEqDiff]) y0 p1)]
    simp (disch := first | omega | (with_unfolding_all exact rfl) | (simp only [new_n, put_n, new_m]; omega) | (refine put_m_le ?_; simp only [new_m]; omega)) only [res13, walk0, walk1, walk2, walk3, walk4, walk5, walk6, walk7, List.nil_append, List.append_nil, List.cons_append, reduceIte, Nat.reduceEqDiff, Nat.reduceAdd, Bool.not_true, Bool.not_false, decide_true, decide_false, kLoop_def, Nat.reduceSub, List.length_cons, List.length_nil, Env.find_set, endO_nil, regD_ok]
    have h1 := st1.m (show d ≤ far by omega)
    have h2 := st2.m (show d ≤ far by omega)
    refine ⟨_, _, rfl, ⟨fun c hc hcd => ?_, ?_, ?_, fun _ => ?_, ?_⟩, rfl, ⟨_, rfl, by omega, by omega⟩, d2⟩
    · show t2.h.get c = _
      rw [st2.same c (by show c < t1.n; omega) hcd, st1.same c (by show c < y.n; omega) hcd]
      show y.h.get c = _
      rw [yg c (by omega), wg c hc]
    · show u.n ≤ t2.n; omega
    · show t2.n ≤ u.n + 10; omega
    · show d ≤ minN (minN y.m t1.m) t2.m; rw [minN_eq, minN_eq]; omega
    · show minN (minN y.m t1.m) t2.m ≤ u.m; rw [minN_eq, minN_eq]; omega) (by omega)
  exact ⟨h, t, hr.symm.trans e, st, hd', h0, h1⟩
end Go.Proofs.Ythambbefgbhnkaa.walk
set_option maxRecDepth 10000
namespace Go.Abs
theorem fld2_1 (s : St) (a : AV) (k : IntKind) (b : Int) : fldA none 1 s (.agg [a, .int k b]) = .val (.int k b) s := rfl
theorem shrI_half (n : Nat) : shrI (n : Int) 1 = ((n / 2 : Nat) : Int) := by
  show Int.fdiv (n : Int) _ = _
  rw [Int.fdiv_eq_ediv_of_nonneg _ (by decide)]
  rfl
end Go.Abs
namespace Go.Proofs.Ythambbefgbhnkaa.walk
open Go.Abs Go.Proofs.Ythambbefgbhnkaa.code

set_option maxHeartbeats 2000000 in
theorem last1_ok {N p7 p3 z7 z3 : Nat} {more : Int} {v1 v2 v3 v4 vb : AV} {s : St} (c : Cellar) (ok : c.Ok) (l : Lot) (okl : l.Ok c.boxes.length) (vs : List AV) (lo k : Nat) (hN : 9 ≤ N) (hm : more = k) (hk : l.born + k + 1 ≤ 240) (hs : s.n + 70000 ≤ far)
    (g7 : s.h.get p7 = some (.cells [.int .i64 c.hl, .int .i64 c.hh, v1, v2, v3, vb] z7)) (g3 : s.h.get p3 = some (.cells [.int .i64 l.born, .int .i64 l.keeps, v4] z3))
    (hR : RowsAt s.h s.n 3 (l.stays.map Stay.cells) v4) (hS : Sheets s.h lo s.n (tabsOf c.boxes c.fills c.boxes.length) vs vb) (hRt : RowsAt s.h s.n 2 (c.rates.map Rate.cells) v3) :
    call Try.prog X N (.fn 63) [.int .i64 more, .ptr p7 0, .ptr p3 0] s = .val (.bool (decide (l.keeps < (c.lost l (k + 1)).2))) s := by
  obtain ⟨n, rfl⟩ : ∃ n, N = n + 1 := ⟨N - 1, by omega⟩
  refine call_plain' Try.func63 (fun u uh un um => ?_) rfl
  have hff : far = 1000000000 := rfl
  rw [← uh] at g7 g3 hR hS hRt
  rw [← un] at hR hS hRt
  have b0 := okl.b0
  have hum : u.m ≤ far := by omega
  have hun : u.n ≤ far := by omega
  have tl : (tabsOf c.boxes c.fills c.boxes.length).length = c.boxes.length := by unfold tabsOf; rw [List.length_map, List.length_range]
  have a1 : ∀ s, aAdd s .i64 l.born more = .val (.int .i64 (l.born + more)) s := fun s => aAdd_i64 s _ _ (by omega)
  have a2 : ∀ s, aAdd s .i64 (l.born + more) 1 = .val (.int .i64 (l.born + more + 1)) s := fun s => aAdd_i64 s _ _ (by omega)
  have e1 := lost_ok (N := n) (s := ⟨u.h, u.n, far⟩) (hl := c.hl) (hh := c.hh) (born := l.born) (keeps := l.keeps) (hour := l.born + more + 1) (v1 := v1) (v2 := v2) (v3 := v3) (v4 := v4) (vb := vb) (tabsOf c.boxes c.fills c.boxes.length) l.stays c.rates vs lo (k + 1) (by omega) b0 (by omega) (by omega) (by show u.n + 60000 ≤ far; omega)
    hR okl.s hS (fun t ht => by
      unfold tabsOf at ht
      obtain ⟨j, _, rfl⟩ := List.mem_map.mp ht
      exact tabOf_len _ _ _) (fun t ht => by
      have := okl.sok t ht
      rw [tl]
      exact ⟨this.b0, this.b1⟩) hRt ok.r ok.rok
  rw [enter63]
  simp (disch := first | omega | (with_unfolding_all exact rfl) | (simp only [new_n, put_n, new_m]; omega) | (refine put_m_le ?_; simp only [new_m]; omega)) only [res63, K63r0, K63r1, K63, walk0, walk1, walk2, walk3, walk4, walk5, walk6, walk7, List.nil_append, List.append_nil, List.cons_append, reduceIte, Nat.reduceEqDiff, Nat.reduceAdd, Bool.not_true, Bool.not_false, decide_true, decide_false, kLoop_def, Nat.reduceSub, List.length_cons, List.length_nil, g7, g3, a1, a2, e1, thenT_same _ _ _ _ _ _ _ hun hum, fld2_1, endO_nil, regD_ok, Nat.zero_add]
  refine ⟨_, rfl, ?_⟩
  omega

/-- A search by halves. -/
def halves (F : Nat → Bool) : Nat → Nat → Nat → Nat
  | 0, i, _ => i
  | m + 1, i, j => if i < j then (if F ((i + j) / 2) = true then halves F m i ((i + j) / 2) else halves F m ((i + j) / 2 + 1) j) else i
theorem halves_spec (F : Nat → Bool) (n : Nat) : ∀ m i j : Nat, i ≤ j → j ≤ n → j - i ≤ m → (i = 0 ∨ F (i - 1) = false) → (j = n ∨ F j = true) →
    halves F m i j ≤ n ∧ (halves F m i j = 0 ∨ F (halves F m i j - 1) = false) ∧ (halves F m i j = n ∨ F (halves F m i j) = true)
  | 0, i, j, h1, h2, h3, h4, h5 => by
    have : i = j := by omega
    subst this
    exact ⟨h2, h4, h5⟩
  | m + 1, i, j, h1, h2, h3, h4, h5 => by
    unfold halves
    by_cases e : i < j
    · rw [if_pos e]
      cases hF : F ((i + j) / 2) with
      | true =>
        rw [if_pos rfl]
        exact halves_spec F n m i _ (by omega) (by omega) (by omega) h4 (.inr hF)
      | false =>
        rw [if_neg (by decide)]
        exact halves_spec F n m _ j (by omega) h2 (by omega) (.inr (by rw [Nat.add_sub_cancel]; exact hF)) h5
    · rw [if_neg e]
      have : i = j := by omega
      subst this
      exact ⟨h2, h4, h5⟩

set_option maxHeartbeats 2000000 in
theorem search_loop {N n : Nat} {f : FuncId} {cp : List AV} (F : Nat → Bool) (cx : Ctx) (s : St) (hn : n ≤ 1000)
    (hF : ∀ h : Nat, h < n → call Try.prog X N (.fn f) (.int .i64 h :: cp) s = .val (.bool (F h)) s) :
    ∀ (m i j fuel : Nat) (L : Env), j - i ≤ m → m < fuel → j ≤ n → L.find 1 = .func f [] cp → L.find 5 = .int .i64 i → L.find 6 = .int .i64 j →
      ∃ L', loopN K62l0 fuel (call Try.prog X N) cx L [] s = .done (.exit 0) L' [] s ∧ L'.find 5 = .int .i64 (halves F m i j)
  | m, i, j, 0, L, hm, hf, hj, h1, h5, h6 => by omega
  | m, i, j, fuel + 1, L, hm, hf, hj, h1, h5, h6 => by
    by_cases hlt : i < j
    · obtain ⟨m', rfl⟩ : ∃ m', m = m' + 1 := ⟨m - 1, by omega⟩
      have e0 : decide ((i : Int) < (j : Int)) = true := by simp; omega
      have a1 : ∀ s, aAdd s .i64 (i : Int) (j : Int) = .val (.int .i64 ((i + j : Nat) : Int)) s := fun s => by rw [aAdd_i64 s _ _ (by omega)]; rfl
      have w1 : wrapA .u64 ((i + j : Nat) : Int) = ((i + j : Nat) : Int) := wrap_u64 _ (by omega)
      have w2 : wrapA .i64 (((i + j) / 2 : Nat) : Int) = (((i + j) / 2 : Nat) : Int) := wrap_in _ (by omega)
      have a3 : ∀ s, aAdd s .i64 (((i + j) / 2 : Nat) : Int) 1 = .val (.int .i64 (((i + j) / 2 + 1 : Nat) : Int)) s := fun s => by rw [aAdd_i64 s _ _ (by omega)]; rfl
      have hc := hF ((i + j) / 2) (by omega)
      rw [loopN_succ]
      unfold halves
      rw [if_pos hlt]
      cases hb : F ((i + j) / 2) with
      | true =>
        rw [hb] at hc
        simp (disch := first | omega | (with_unfolding_all exact rfl) | (simp only [new_n, put_n, new_m]; omega) | (refine put_m_le ?_; simp only [new_m]; omega)) only [res62, K62r0, K62r1, K62r2, K62r3, K62r4, K62r5, K62r6, K62l0, K62r7, K62, walk0, walk1, walk2, walk3, walk4, walk5, walk6, walk7, List.nil_append, List.append_nil, List.cons_append, reduceIte, Nat.reduceEqDiff, Nat.reduceAdd, Bool.not_true, Bool.not_false, decide_true, decide_false, kLoop_def, Nat.reduceSub, List.length_cons, List.length_nil, Env.find_set, h1, h5, h6, e0, a1, w1, w2, a3, hc, kShr_def, shrA_u64, cviA_int, shrI_half]
        exact search_loop F cx s hn hF m' i ((i + j) / 2) fuel _ (by omega) (by omega) (by omega) (by simp only [Env.find_set, h1, reduceIte, Nat.reduceEqDiff]) (by simp only [Env.find_set, h5, reduceIte, Nat.reduceEqDiff]) (by simp only [Env.find_set, reduceIte, Nat.reduceEqDiff])
      | false =>
        rw [hb] at hc
        simp (disch := first | omega | (with_unfolding_all exact rfl) | (simp only [new_n, put_n, new_m]; omega) | (refine put_m_le ?_; simp only [new_m]; omega)) only [res62, K62r0, K62r1, K62r2, K62r3, K62r4, K62r5, K62r6, K62l0, K62r7, K62, walk0, walk1, walk2, walk3, walk4, walk5, walk6, walk7, List.nil_append, List.append_nil, List.cons_append, reduceIte, Nat.reduceEqDiff, Nat.reduceAdd, Bool.not_true, Bool.not_false, decide_true, decide_false, kLoop_def, Nat.reduceSub, List.length_cons, List.length_nil, Env.find_set, h1, h5, h6, e0, a1, w1, w2, a3, hc, kShr_def, shrA_u64, cviA_int, shrI_half]
        exact search_loop F cx s hn hF m' ((i + j) / 2 + 1) j fuel _ (by omega) (by omega) (by omega) (by simp only [Env.find_set, h1, reduceIte, Nat.reduceEqDiff]) (by simp only [Env.find_set, reduceIte, Nat.reduceEqDiff]) (by simp only [Env.find_set, h6, reduceIte, Nat.reduceEqDiff])
    · have e0 : decide ((i : Int) < (j : Int)) = false := by simp; omega
      have hh : halves F m i j = i := by
        cases m with
        | zero => rfl
        | succ m => unfold halves; rw [if_neg hlt]
      rw [loopN_succ, hh]
      simp (disch := first | omega | (with_unfolding_all exact rfl) | (simp only [new_n, put_n, new_m]; omega) | (refine put_m_le ?_; simp only [new_m]; omega)) only [res62, K62r0, K62r1, K62r2, K62r3, K62r4, K62r5, K62r6, K62l0, K62r7, K62, walk0, walk1, walk2, walk3, walk4, walk5, walk6, walk7, List.nil_append, List.append_nil, List.cons_append, reduceIte, Nat.reduceEqDiff, Nat.reduceAdd, Bool.not_true, Bool.not_false, decide_true, decide_false, kLoop_def, Nat.reduceSub, List.length_cons, List.length_nil, Env.find_set, h1, h5, h6, e0]
      exact ⟨_, rfl, by simp only [Env.find_set, h5, reduceIte, Nat.reduceEqDiff]⟩

theorem search_ok {N n : Nat} {f : FuncId} {cp : List AV} (F : Nat → Bool) (s : St) (hN : 1 ≤ N) (hn : n ≤ 1000) (hs : s.n + 100 ≤ far)
    (hF : ∀ h : Nat, h < n → ∀ m, call Try.prog X (N - 1) (.fn f) (.int .i64 h :: cp) ⟨s.h, s.n, m⟩ = .val (.bool (F h)) ⟨s.h, s.n, m⟩) :
    call Try.prog X N (.fn 62) [.int .i64 n, .func f [] cp] s = .val (.int .i64 (halves F n 0 n)) s := by
  obtain ⟨N, rfl⟩ : ∃ n, N = n + 1 := ⟨N - 1, by omega⟩
  refine call_plain' Try.func62 (fun u uh un um => ?_) rfl
  have hff : far = 1000000000 := rfl
  obtain ⟨L', hL, h5⟩ := search_loop (N := N) F ⟨62, none, Try.f62.ntmps, X 62⟩ u hn (fun h hh => by
    have := hF h hh u.m
    rw [← uh, ← un] at this
    exact this) n 0 n rounds
    (.cons 0 (.int .i64 n) (.cons 1 (.func f [] cp) (.cons 4 (.int .i64 0) (.cons 5 (.int .i64 0) (.cons 6 (.int .i64 n) .nil))))) (by omega) (by unfold rounds; omega) (Nat.le_refl _) rfl rfl rfl
  rw [enter62]
  simp only [res62, K62r0, K62r1, K62r2, K62r3, K62r4, K62r5, K62r6, K62r7, K62, walk0, walk1, walk2, walk3, walk4, walk5, walk6, walk7, List.nil_append, List.append_nil, List.cons_append, reduceIte, Nat.reduceEqDiff, Nat.reduceAdd, Bool.not_true, Bool.not_false, decide_true, decide_false, kLoop_def, Nat.reduceSub, List.length_cons, List.length_nil, hL, h5, Env.find_set]
  exact ⟨_, rfl, by omega⟩

/-- The last hour at which a lot is surely fresh, as it is searched for. -/
def Cellar.last (c : Cellar) (l : Lot) : Nat := halves (fun k => decide (l.keeps < (c.lost l (k + 1)).2)) (240 - l.born).toNat 0 (240 - l.born).toNat
theorem Cellar.last_spec (c : Cellar) (l : Lot) : c.last l ≤ (240 - l.born).toNat ∧ (c.last l = 0 ∨ (c.lost l (c.last l)).2 ≤ l.keeps) ∧ (c.last l = (240 - l.born).toNat ∨ l.keeps < (c.lost l (c.last l + 1)).2) := by
  obtain ⟨h1, h2, h3⟩ := halves_spec (fun k => decide (l.keeps < (c.lost l (k + 1)).2)) (240 - l.born).toNat (240 - l.born).toNat 0 (240 - l.born).toNat (Nat.zero_le _) (Nat.le_refl _) (by omega) (.inl rfl) (.inl rfl)
  refine ⟨h1, ?_, ?_⟩
  · by_cases e : c.last l = 0
    · exact .inl e
    · refine .inr ?_
      rcases h2 with h2 | h2
      · exact absurd h2 e
      · have h2 := of_decide_eq_false h2
        have e2 : c.last l - 1 + 1 = c.last l := by omega
        unfold Cellar.last at e2 ⊢
        rw [e2] at h2
        omega
  · rcases h3 with h3 | h3
    · exact .inl h3
    · exact .inr (of_decide_eq_true h3)

set_option maxHeartbeats 4000000 in
theorem Last_ok {N : Nat} {s : St} {v1 v2 v3 v4 : AV} (c : Cellar) (ok : c.Ok) (l : Lot) (okl : l.Ok c.boxes.length) (hN : 12 ≤ N) (hC : CellarIn s.h s.n c v1 v2 v3) (hR : RowsAt s.h s.n 3 (l.stays.map Stay.cells) v4) (s4 : v4.scalar = true) (hs : s.n + 300000 ≤ far) :
    call Try.prog X N (.fn 28) [.agg [.int .i64 c.hl, .int .i64 c.hh, v1, v2, v3], .agg [.int .i64 l.born, .int .i64 l.keeps, v4]] s = .val (.tup [.int .i64 (l.born + (c.last l : Int)), .int .i64 0]) s := by
  obtain ⟨n, rfl⟩ : ∃ n, N = n + 1 := ⟨N - 1, by omega⟩
  refine call_plain' Try.func28 (fun u uh un um => ?_) rfl
  have hff : far = 1000000000 := rfl
  rw [← uh, ← un] at hC hR
  obtain ⟨w, hw⟩ : ∃ w : St, w = (u.new (.cells [.int .i64 c.hl, .int .i64 c.hh, v1, v2, v3] (tag 31))).new (.cells [.int .i64 l.born, .int .i64 l.keeps, v4] (tag 35)) := ⟨_, rfl⟩
  have wn : w.n = u.n + 2 := by rw [hw]; rfl
  have wm : w.m = far := by rw [hw]; exact um
  have wg : ∀ c, c < u.n → w.h.get c = u.h.get c := fun c hc => by rw [hw, get_new_ne _ _ _ (by simp only [new_n]; omega), get_new_ne _ _ _ (by omega)]
  have w0 : w.h.get u.n = some (.cells [.int .i64 c.hl, .int .i64 c.hh, v1, v2, v3] (tag 31)) := by
    rw [hw, get_new_ne _ _ _ (by simp only [new_n]; omega)]; exact get_new_eq _ _ _ rfl (by omega)
  have w1 : w.h.get (u.n + 1) = some (.cells [.int .i64 l.born, .int .i64 l.keeps, v4] (tag 35)) := by
    rw [hw]; exact get_new_eq _ _ _ rfl (by simp only [new_n]; omega)
  have nn1 : ∀ o, (u.new o).n = u.n + 1 := fun _ => rfl
  have hCw := hC.grow wg (by omega : u.n ≤ w.n)
  have hRw := hR.grow wg (by omega : u.n ≤ w.n)
  have e1 := checkLot_ok n (by omega) c ok l okl v1 v2 v3 v4 w hCw.at_ hRw (by omega)
  have b0 := okl.b0
  have b1 := okl.b1
  have a1 : ∀ s, aSub s .i64 240 l.born = .val (.int .i64 (240 - l.born)) s := fun s => aSub_i64 s _ _ (by omega)
  rw [enter28]
  simp (disch := first | omega | (with_unfolding_all exact rfl) | (simp only [new_n, put_n, new_m]; omega) | (refine put_m_le ?_; simp only [new_m]; omega)) only [res28, K28, K28r0, walk0, walk1, walk2, walk3, walk4, walk5, walk6, walk7, List.nil_append, List.append_nil, List.cons_append, reduceIte, Nat.reduceEqDiff, Nat.reduceAdd, Bool.not_true, Bool.not_false, decide_true, decide_false, kLoop_def, Nat.reduceSub, List.length_cons, List.length_nil, nn1]
  rw [← hw]
  simp (disch := first | omega | (with_unfolding_all exact rfl) | (simp only [new_n, put_n, new_m]; omega) | (refine put_m_le ?_; simp only [new_m]; omega)) only [res28, K28r0, K28r1, K28r2, K28r3, K28r4, K28r5, K28r6, K28, walk0, walk1, walk2, walk3, walk4, walk5, walk6, walk7, List.nil_append, List.append_nil, List.cons_append, reduceIte, Nat.reduceEqDiff, Nat.reduceAdd, Bool.not_true, Bool.not_false, decide_true, decide_false, kLoop_def, Nat.reduceSub, List.length_cons, List.length_nil, w0, w1, e1, Nat.zero_add]
  generalize hc : call _ _ _ (.fn 47) _ _ = r1
  obtain ⟨vs, vb, t1, rfl, st1, hS⟩ := larderOf_ex c.boxes c.fills c.boxes.length hc (by omega) hCw.at_.b hCw.f ok.b ok.f ok.bok ok.fok (scal_ne hC.s3) hC.s1 hC.s3 (by omega)
  have t1m : t1.m = far := st1.m.trans wm
  have t1n := st1.n
  have t1l := st1.le
  have t1g := st1.same
  have t1u : ∀ c, c < u.n → t1.h.get c = u.h.get c := fun c hc => (t1g c (by omega)).trans (wg c hc)
  obtain ⟨f2, c2, sc2⟩ := hC.f.scalar
  have sall : scalars [v1, v2, v3, vb] = scalars [vb] := by rw [scal_cons _ _ hC.s1, sc2, scal_cons _ _ hC.s3]
  have scb : scalars [vb] = true := by rw [hS.rows.scalar.2.2]; rfl
  have w1' := (t1g (u.n + 1) (by omega)).trans w1
  obtain ⟨y, hy⟩ : ∃ y : St, y = (t1.new (.cells [.int .i64 0, .int .i64 0, .nilslice, .nilslice, .nilslice, .nilslice] (tag 99))).put t1.n (.cells [.int .i64 c.hl, .int .i64 c.hh, v1, v2, v3, vb] (tag 99)) := ⟨_, rfl⟩
  have yn : y.n = t1.n + 1 := by rw [hy]; rfl
  have ym : y.m = min t1.m t1.n := by rw [hy]; simp only [St.put, minN_eq, new_m]
  have yg : ∀ c, c ≠ t1.n → y.h.get c = t1.h.get c := fun c hc => by rw [hy, get_put_ne' _ _ _ _ hc, get_new_ne _ _ _ hc]
  have y7 : y.h.get t1.n = some (.cells [.int .i64 c.hl, .int .i64 c.hh, v1, v2, v3, vb] (tag 99)) := by rw [hy]; exact get_put_eq _ _ _ _ rfl (by omega)
  have y3 := (yg (u.n + 1) (by omega)).trans w1'
  have yu : ∀ c, c < u.n → y.h.get c = u.h.get c := fun c hc => (yg c (by omega)).trans (t1u c hc)
  have hs1 := search_ok (N := n) (n := (240 - l.born).toNat) (f := 63) (cp := [.ptr t1.n 0, .ptr (u.n + 1) 0]) (fun k => decide (l.keeps < (c.lost l (k + 1)).2)) y (by omega) (by omega) (by omega) (fun k hk m =>
    last1_ok (s := ⟨y.h, y.n, m⟩) c ok l okl vs (w.n + 3) k (by omega) rfl (by omega) (by show y.n + 70000 ≤ far; omega) y7 y3 (hR.grow yu (by show u.n ≤ y.n; omega)) (hS.mono (fun b _ hb => yg b (by omega)) (by show t1.n ≤ y.n; omega)) (hC.at_.r.grow yu (by show u.n ≤ y.n; omega)))
  have et : ((240 - l.born).toNat : Int) = 240 - l.born := by omega
  rw [et] at hs1
  have hs2 : halves (fun k => decide (l.keeps < (c.lost l (k + 1)).2)) (240 - l.born).toNat 0 (240 - l.born).toNat = c.last l := rfl
  rw [hs2] at hs1
  have ll := (c.last_spec l).1
  have a2 : ∀ s, aAdd s .i64 l.born (c.last l : Int) = .val (.int .i64 (l.born + (c.last l : Int))) s := fun s => aAdd_i64 s _ _ (by omega)
  simp (disch := first | omega | (with_unfolding_all exact rfl) | (simp only [new_n, put_n, new_m]; omega) | (refine put_m_le ?_; simp only [new_m]; omega)) only [K28r4, walk0, walk1, walk2, walk3, walk4, walk5, walk6, walk7, List.nil_append, List.append_nil, List.cons_append, reduceIte, Nat.reduceEqDiff, Nat.reduceAdd, Bool.not_true, Bool.not_false, decide_true, decide_false, kLoop_def, Nat.reduceSub, List.length_cons, List.length_nil, sall, scb]
  rw [← hy]
  simp (disch := first | omega | (with_unfolding_all exact rfl) | (simp only [new_n, put_n, new_m]; omega) | (refine put_m_le ?_; simp only [new_m]; omega)) only [res28, K28r0, K28r1, K28r2, K28r3, K28r4, K28r5, K28r6, K28, walk0, walk1, walk2, walk3, walk4, walk5, walk6, walk7, List.nil_append, List.append_nil, List.cons_append, reduceIte, Nat.reduceEqDiff, Nat.reduceAdd, Bool.not_true, Bool.not_false, decide_true, decide_false, kLoop_def, Nat.reduceSub, List.length_cons, List.length_nil, Env.find_set, y3, w1', a1, a2, hs1, kFunc_def, leave_tmp_tmp, Nat.zero_add]
  exact ⟨_, rfl, by omega⟩
end Go.Proofs.Ythambbefgbhnkaa.walk
set_option maxRecDepth 10000
namespace Go.Abs
theorem endO_ok {M : Env} {l : List (Nat × Nat)} (s : St) (h : endOk M l = true) : endO l (.ok M s) = .ok M s := by
  show (match endOk M l with | true => ORes.ok M s | false => .fail) = _
  rw [h]
theorem endOk_nil (M : Env) : endOk M [] = true := rfl
theorem endOk_cons {M : Env} {t u : Nat} {r : List (Nat × Nat)} (h : apartA (M.find t) (M.find u) = true) : endOk M ((t, u) :: r) = endOk M r := by
  show (match apartA (M.find t) (M.find u) with | true => endOk M r | false => false) = _
  rw [h]
theorem apart_slice {b c o n k p : Nat} {e : Bool} (h : b ≠ c) : apartA (.slice b o n k e) (.ptr c p) = true := by
  unfold apartA
  simp [blockOf, nbeq_f h]
theorem Own.move {h h' : Heap} {lo lo' n n' w tg : Nat} {rows : List (List AV)} {v : AV} (r : Own h lo n w tg rows v) (hh : ∀ b, lo ≤ b → b < n → h'.get b = h.get b) (hl : lo' ≤ lo) (hn : n ≤ n') : Own h' lo' n' w tg rows v := by
  refine ⟨r.wide, ?_⟩
  rcases r.is with ⟨h1, h2 | ⟨b, h0, h3, h4, h5⟩⟩ | ⟨h1, b, h0, h3, h4, h5⟩
  · exact .inl ⟨h1, .inl h2⟩
  · exact .inl ⟨h1, .inr ⟨b, by omega, by omega, h4, by rw [hh b h0 h3]; exact h5⟩⟩
  · exact .inr ⟨h1, b, by omega, by omega, h4, by rw [hh b h0 h3]; exact h5⟩
theorem Own.none {h h' : Heap} {lo lo' n n' w tg : Nat} {rows : List (List AV)} {v : AV} (r : Own h lo n w tg rows v) (hp : plain v = true) : Own h' lo' n' w tg rows v := by
  rcases r.is with ⟨h1, h2 | ⟨b, _, _, h4, _⟩⟩ | ⟨_, b, _, _, h4, _⟩
  · subst h1; subst h2; exact ⟨fun x hx => (by cases hx), .inl ⟨rfl, .inl rfl⟩⟩
  · subst h4; cases hp
  · subst h4; cases hp
end Go.Abs
namespace Go.Proofs.Ythambbefgbhnkaa.walk
open Go.Abs Go.Proofs.Ythambbefgbhnkaa.code

theorem box_scalars (l : List Box) : ∀ r ∈ l.map Box.cells, scalars r = true := by
  intro r hr
  obtain ⟨f, _, rfl⟩ := List.mem_map.mp hr
  rfl
theorem rate_scalars (l : List Rate) : ∀ r ∈ l.map Rate.cells, scalars r = true := by
  intro r hr
  obtain ⟨f, _, rfl⟩ := List.mem_map.mp hr
  rfl

set_option maxHeartbeats 4000000 in
theorem CopyCellar_ex {N : Nat} {s : St} {r : ARes} {hl hh : Int} {v1 v2 v3 : AV} (c : Cellar) (hr : call Try.prog X N (.fn 38) [.agg [.int .i64 hl, .int .i64 hh, v1, v2, v3]] s = r) (hN : 1 ≤ N)
    (S1 : Seq s.h s.n 9 (c.boxes.map Box.cells) v1) (S2 : Seq s.h s.n 3 (c.fills.map Fill.cells) v2) (S3 : Seq s.h s.n 2 (c.rates.map Rate.cells) v3) (k1 : c.boxes.length ≤ 20) (k2 : c.fills.length ≤ 20) (k3 : c.rates.length ≤ 20) (hs : s.n + 1000 ≤ far) :
    ∃ (w1 w2 w3 : AV) (t : St) (n1 n2 : Nat), r = .val (.agg [.int .i64 hl, .int .i64 hh, w1, w2, w3]) t ∧ New s t 10 ∧ s.n ≤ n1 ∧ n1 ≤ n2 ∧ n2 ≤ t.n ∧
      Own t.h s.n n1 9 (tag 79) (c.boxes.map Box.cells) w1 ∧ Own t.h n1 n2 3 (tag 87) (c.fills.map Fill.cells) w2 ∧ Own t.h n2 t.n 2 (tag 89) (c.rates.map Rate.cells) w3 := by
  obtain ⟨n, rfl⟩ : ∃ n, N = n + 1 := ⟨N - 1, by omega⟩
  have hf : far = 1000000000 := rfl
  obtain ⟨w, t, e, st, w1, w2, w3, n1, n2, rfl, hq⟩ := call_new' (n := n) (args := [.agg [.int .i64 hl, .int .i64 hh, v1, v2, v3]]) (s := s) (k := 10)
    (Q := fun v h m => ∃ (w1 w2 w3 : AV) (n1 n2 : Nat), v = .agg [.int .i64 hl, .int .i64 hh, w1, w2, w3] ∧ s.n ≤ n1 ∧ n1 ≤ n2 ∧ n2 ≤ m ∧ Own h s.n n1 9 (tag 79) (c.boxes.map Box.cells) w1 ∧ Own h n1 n2 3 (tag 87) (c.fills.map Fill.cells) w2 ∧ Own h n2 m 2 (tag 89) (c.rates.map Rate.cells) w3)
    Try.func38 rfl (fun u uh un um => by
    rw [← uh, ← un] at S1 S2 S3
    rw [← un]
    obtain ⟨ok1, c1, sc1⟩ := S1.scalar
    obtain ⟨ok2, c2, sc2⟩ := S2.scalar
    obtain ⟨ok3, c3, sc3⟩ := S3.scalar
    have sh : shapeT Try.prog 31 = some (some 5) := by kernel_rfl
    have nn1 : ∀ o, (u.new o).n = u.n + 1 := fun _ => rfl
    rw [enter38]
    simp (disch := first | omega | (with_unfolding_all exact rfl) | (simp only [new_n, put_n, new_m]; omega) | (refine put_m_le ?_; simp only [new_m]; omega)) only [res38, K38, K38r0, walk0, walk1, walk2, walk3, walk4, walk5, walk6, walk7, List.nil_append, List.append_nil, List.cons_append, reduceIte, Nat.reduceEqDiff, Nat.reduceAdd, Bool.not_true, Bool.not_false, decide_true, decide_false, kLoop_def, Nat.reduceSub, List.length_cons, List.length_nil, nn1]
    obtain ⟨w, hw⟩ : ∃ w : St, w = (u.new (.cells [.int .i64 hl, .int .i64 hh, v1, v2, v3] (tag 31))).new (.cells [.int .i64 0, .int .i64 0, .nilslice, .nilslice, .nilslice] (tag 31)) := ⟨_, rfl⟩
    rw [← hw]
    have wn : w.n = u.n + 2 := by rw [hw]; rfl
    have wm : w.m = far := by rw [hw]; exact um
    have wg : ∀ c, c < u.n → w.h.get c = u.h.get c := fun c hc => by rw [hw, get_new_ne _ _ _ (by simp only [new_n]; omega), get_new_ne _ _ _ (by omega)]
    have w0 : w.h.get u.n = some (.cells [.int .i64 hl, .int .i64 hh, v1, v2, v3] (tag 31)) := by
      rw [hw, get_new_ne _ _ _ (by simp only [new_n]; omega)]; exact get_new_eq _ _ _ rfl (by omega)
    have w1' : w.h.get (u.n + 1) = some (.cells [.int .i64 0, .int .i64 0, .nilslice, .nilslice, .nilslice] (tag 31)) := by rw [hw]; exact get_new_eq _ _ _ rfl (by simp only [new_n]; omega)
    have kl1 : (c.boxes.map Box.cells).length ≤ 20 := by rw [List.length_map]; exact k1
    have kl2 : (c.fills.map Fill.cells).length ≤ 20 := by rw [List.length_map]; exact k2
    have kl3 : (c.rates.map Rate.cells).length ≤ 20 := by rw [List.length_map]; exact k3
    obtain ⟨x1, hx1⟩ : ∃ x1 : St, x1 = w.new (.cells [] 0) := ⟨_, rfl⟩
    have x1n : x1.n = w.n + 1 := by rw [hx1]; rfl
    have x1m : x1.m = far := by rw [hx1]; exact wm
    have x1g : ∀ c, c < w.n → x1.h.get c = w.h.get c := fun c hc => by rw [hx1, get_new_ne _ _ _ (by omega)]
    obtain ⟨a1, s1, e1, own1, ln1, le1, same1, m1, mm1⟩ := append_copy (bytes := 72) (tg := tag 79) (p := w.n) (S1.grow (h' := x1.h) (n' := x1.n) (fun b hb => (x1g b (by omega)).trans (wg b hb)) (by omega)) (by rw [hx1]; exact get_new_eq _ _ _ rfl (by omega)) (by omega) (box_scalars c.boxes) (by omega) (by omega)
    have mw1 := m1 w.n (Nat.le_refl _) (by omega)
    obtain ⟨x2, hx2⟩ : ∃ x2 : St, x2 = s1.new (.cells [] 0) := ⟨_, rfl⟩
    have x2n : x2.n = s1.n + 1 := by rw [hx2]; rfl
    have x2m : x2.m = s1.m := by rw [hx2]; rfl
    have x2g : ∀ c, c < s1.n → x2.h.get c = s1.h.get c := fun c hc => by rw [hx2, get_new_ne _ _ _ (by omega)]
    have b2 : ∀ c, c < x1.n → x2.h.get c = x1.h.get c := fun c hc => (x2g c (by omega)).trans (same1 c hc)
    obtain ⟨a2, s2, e2, own2, ln2, le2, same2, m2, mm2⟩ := append_copy (bytes := 24) (tg := tag 87) (p := s1.n) (S2.grow (h' := x2.h) (n' := x2.n) (fun b hb => (b2 b (by omega)).trans ((x1g b (by omega)).trans (wg b hb))) (by omega)) (by rw [hx2]; exact get_new_eq _ _ _ rfl (by omega)) (by omega) (fill_scalars c.fills) (by omega) (by omega)
    have mw2 := m2 w.n (by omega) (by omega)
    obtain ⟨x3, hx3⟩ : ∃ x3 : St, x3 = s2.new (.cells [] 0) := ⟨_, rfl⟩
    have x3n : x3.n = s2.n + 1 := by rw [hx3]; rfl
    have x3m : x3.m = s2.m := by rw [hx3]; rfl
    have x3g : ∀ c, c < s2.n → x3.h.get c = s2.h.get c := fun c hc => by rw [hx3, get_new_ne _ _ _ (by omega)]
    have b3 : ∀ c, c < x2.n → x3.h.get c = x2.h.get c := fun c hc => (x3g c (by omega)).trans (same2 c hc)
    obtain ⟨a3, s3, e3, own3, ln3, le3, same3, m3, mm3⟩ := append_copy (bytes := 16) (tg := tag 89) (p := s2.n) (S3.grow (h' := x3.h) (n' := x3.n) (fun b hb => (b3 b (by omega)).trans ((b2 b (by omega)).trans ((x1g b (by omega)).trans (wg b hb)))) (by omega)) (by rw [hx3]; exact get_new_eq _ _ _ rfl (by omega)) (by omega) (rate_scalars c.rates) (by omega) (by omega)
    have mw3 := m3 w.n (by omega) (by omega)
    have g1 : ∀ c, c < w.n → x1.h.get c = w.h.get c := x1g
    have g2 : ∀ c, c < w.n → x2.h.get c = w.h.get c := fun c hc => (b2 c (by omega)).trans (x1g c hc)
    have g3 : ∀ c, c < w.n → x3.h.get c = w.h.get c := fun c hc => (b3 c (by omega)).trans (g2 c hc)
    have g4 : ∀ c, c < w.n → s3.h.get c = w.h.get c := fun c hc => (same3 c (by omega)).trans (g3 c hc)
    have y1 := (g1 u.n (by omega)).trans w0
    have y2 := (g2 u.n (by omega)).trans w0
    have y3 := (g3 u.n (by omega)).trans w0
    have y4 := (g4 u.n (by omega)).trans w0
    have y5 := (g4 (u.n + 1) (by omega)).trans w1'
    obtain ⟨p1, q1, z1⟩ := own1.seq.scalar
    obtain ⟨p2, q2, z2⟩ := own2.seq.scalar
    obtain ⟨p3, q3, z3⟩ := own3.seq.scalar
    have z1' : scalars [a1] = true := by rw [z1]; rfl
    have z2' : scalars [a2] = true := by rw [z2]; rfl
    have z3' : scalars [a3] = true := by rw [z3]; rfl
    have sall : ∀ l, scalars (a1 :: a2 :: a3 :: l) = scalars l := fun l => by rw [z1, z2, z3]
    have gp : ∀ o1 o2 o3, (((s3.put u.n o1).put u.n o2).put u.n o3).h.get (u.n + 1) = some (.cells [.int .i64 0, .int .i64 0, .nilslice, .nilslice, .nilslice] (tag 31)) := fun o1 o2 o3 => by
      rw [get_put_ne' _ _ _ _ (by omega), get_put_ne' _ _ _ _ (by omega), get_put_ne' _ _ _ _ (by omega)]; exact y5
    have s1u := (same1 u.n (by omega)).trans y1
    have s2u := (same2 u.n (by omega)).trans y2
    rw [hx1] at e1
    rw [hx2] at e2
    rw [hx3] at e3
    simp (disch := first | omega | (with_unfolding_all exact rfl) | (simp only [new_n, put_n, new_m]; omega) | (refine put_m_le ?_; simp only [new_m]; omega)) only [K38r1, walk0, walk1, walk2, walk3, walk4, walk5, walk6, walk7, List.nil_append, List.append_nil, List.cons_append, reduceIte, Nat.reduceEqDiff, Nat.reduceAdd, Bool.not_true, Bool.not_false, decide_true, decide_false, kLoop_def, Nat.reduceSub, List.length_cons, List.length_nil, Env.find_set, w0, ok1, e1, s1u, ok2, e2, s2u, ok3, e3, y4, q1, q2, q3, z1', z2', z3', Nat.zero_add]
    rw [endO_ok _ (by
      rw [endOk_cons, endOk_cons, endOk_cons, endOk_nil]
      all_goals
        simp only [find_cons, reduceIte, Nat.reduceEqDiff]
        exact apart_slice (by omega))]
    simp (disch := first | omega | (with_unfolding_all exact rfl) | (simp only [new_n, put_n, new_m]; omega) | (refine put_m_le ?_; simp only [new_m]; omega)) only [K38r2, walk0, walk1, walk2, walk3, walk4, walk5, walk6, walk7, List.nil_append, List.append_nil, List.cons_append, reduceIte, Nat.reduceEqDiff, Nat.reduceAdd, Bool.not_true, Bool.not_false, decide_true, decide_false, kLoop_def, Nat.reduceSub, List.length_cons, List.length_nil, Env.find_set, regD_ok, gp, sall, scal_nil, Nat.zero_add]
    have fin : ∀ c, c ≠ u.n → c ≠ u.n + 1 → ∀ o1 o2 o3 o4, ((((s3.put u.n o1).put u.n o2).put u.n o3).put (u.n + 1) o4).h.get c = s3.h.get c := fun c h1 h2 o1 o2 o3 o4 => by
      rw [get_put_ne' _ _ _ _ h2, get_put_ne' _ _ _ _ h1, get_put_ne' _ _ _ _ h1, get_put_ne' _ _ _ _ h1]
    have o1 : Own s3.h w.n s1.n 9 (tag 79) (c.boxes.map Box.cells) a1 := own1.move (fun b hb hb2 => (same3 b (by omega)).trans ((x3g b (by omega)).trans ((same2 b (by omega)).trans (x2g b hb2)))) (Nat.le_refl _) (Nat.le_refl _)
    have o2 : Own s3.h s1.n s2.n 3 (tag 87) (c.fills.map Fill.cells) a2 := own2.move (fun b hb hb2 => (same3 b (by omega)).trans (x3g b hb2)) (Nat.le_refl _) (Nat.le_refl _)
    refine ⟨.agg [.int .i64 hl, .int .i64 hh, a1, a2, a3], _, leave_cell _ _ _ _ sh ?_, ⟨fun c hc => ?_, ?_, ?_, ?_, ?_⟩,
      ⟨a1, a2, a3, s1.n, s2.n, rfl, by omega, by omega, by simp only [put_n]; omega, o1.move (fun b hb hb2 => fin b (by omega) (by omega) _ _ _ _) (by omega) (Nat.le_refl _), o2.move (fun b hb hb2 => fin b (by omega) (by omega) _ _ _ _) (by omega) (Nat.le_refl _), own3.move (fun b hb hb2 => fin b (by omega) (by omega) _ _ _ _) (by omega) (Nat.le_refl _)⟩,
      fun hp => ⟨a1, a2, a3, u.n, u.n, rfl, Nat.le_refl _, Nat.le_refl _, by omega, own1.none (plains_mem hp (by simp)), own2.none (plains_mem hp (by simp)), own3.none (plains_mem hp (by simp))⟩⟩
    · simp (disch := first | omega | (with_unfolding_all exact rfl) | (simp only [new_n, put_n, new_m]; omega) | (refine put_m_le ?_; simp only [new_m]; omega)) only [walk0, walk1, walk2, walk3, walk4, walk5, walk6, walk7, List.nil_append, List.append_nil, List.cons_append, reduceIte, Nat.reduceEqDiff, Nat.reduceAdd, Bool.not_true, Bool.not_false, decide_true, decide_false, kLoop_def, Nat.reduceSub, List.length_cons, List.length_nil, okA_agg]
    · rw [fin c (by omega) (by omega)]; exact (g4 c (by omega)).trans (wg c hc)
    · simp only [put_n]; omega
    · simp only [put_n]; omega
    · simp only [St.put, minN_eq]; omega
    · simp only [St.put, minN_eq]; omega)
  exact ⟨w1, w2, w3, t, n1, n2, hr.symm.trans e, st, hq⟩
end Go.Proofs.Ythambbefgbhnkaa.walk
set_option maxRecDepth 10000
namespace Go.Abs
theorem nth_skip : ∀ (a l : List AV) (k : Nat), nth (a ++ l) (a.length + k) = nth l k
  | [], l, k => by rw [List.length_nil, Nat.zero_add, List.nil_append]
  | x :: a, l, k => by rw [List.length_cons, List.cons_append, show a.length + 1 + k = (a.length + k) + 1 by omega, nth_cons, if_neg (by omega)]; exact nth_skip a l k
theorem nth_front : ∀ (R l : List AV) (k : Nat), k < R.length → nth (R ++ l) k = nth R k
  | [], l, k, h => by simp at h
  | x :: R, l, 0, h => rfl
  | x :: R, l, k + 1, h => by rw [List.cons_append, nth_cons, nth_cons, if_neg (by omega), if_neg (by omega), Nat.add_sub_cancel]; exact nth_front R l k (by simpa using h)
theorem over_one : ∀ (R l : List AV) (k : Nat) (v : AV), k < R.length → over k [v] (R ++ l) = some (R.set k v ++ l)
  | [], l, k, v, h => by simp at h
  | a :: R, l, 0, v, _ => by rw [List.cons_append, over_cons, if_pos rfl, over1_cons, over1_nil]; rfl
  | a :: R, l, k + 1, v, h => by rw [List.cons_append, over_cons, if_neg (by omega), Nat.add_sub_cancel, over_one R l k v (by simpa using h)]; rfl
theorem set_parts {rows : List (List AV)} {w i : Nat} {R : List AV} (hw : ∀ r ∈ rows, r.length = w) (hi : i < rows.length) : ∃ a l, (rows.set i R).flatten = a ++ (R ++ l) ∧ a.length = i * w ∧ ∀ R', (rows.set i R').flatten = a ++ (R' ++ l) := by
  have e : ∀ R', (rows.set i R').flatten = (rows.take i).flatten ++ (R' ++ (rows.drop (i + 1)).flatten) := fun R' => by
    rw [List.set_eq_take_append_cons_drop, if_pos hi, List.flatten_append, List.flatten_cons]
  exact ⟨_, _, e R, by rw [flatten_len (w := w) (fun r hr => hw r (List.mem_of_mem_take hr)), List.length_take, Nat.min_eq_left (by omega)], e⟩
theorem nth_cell {rows : List (List AV)} {w i : Nat} (hw : ∀ r ∈ rows, r.length = w) (hi : i < rows.length) (R : List AV) (k : Nat) (hR : R.length = w) (hk : k < w) : nth (rows.set i R).flatten (i * w + k) = nth R k := by
  obtain ⟨a, l, h1, h2, _⟩ := set_parts (R := R) hw hi
  rw [h1, ← h2, nth_skip, nth_front _ _ _ (by omega)]
theorem over_cell {rows : List (List AV)} {w i : Nat} (hw : ∀ r ∈ rows, r.length = w) (hi : i < rows.length) (R : List AV) (k : Nat) (v : AV) (hR : R.length = w) (hk : k < w) : over (i * w + k) [v] (rows.set i R).flatten = some (rows.set i (R.set k v)).flatten := by
  obtain ⟨a, l, h1, h2, h3⟩ := set_parts (R := R) hw hi
  rw [h1, ← h2, over_skip, over_one _ _ _ _ (by omega), h3]
  rfl
theorem nth_cell0 {rows : List (List AV)} {w i : Nat} (hw : ∀ r ∈ rows, r.length = w) (hi : i < rows.length) (R : List AV) (hR : R.length = w) (hk : 0 < w) : nth (rows.set i R).flatten (i * w) = nth R 0 := nth_cell hw hi R 0 hR hk
theorem over_cell0 {rows : List (List AV)} {w i : Nat} (hw : ∀ r ∈ rows, r.length = w) (hi : i < rows.length) (R : List AV) (v : AV) (hR : R.length = w) (hk : 0 < w) : over (i * w) [v] (rows.set i R).flatten = some (rows.set i (R.set 0 v)).flatten := over_cell hw hi R 0 v hR hk
end Go.Abs
namespace Go.Proofs.Ythambbefgbhnkaa.walk
open Go.Abs Go.Proofs.Ythambbefgbhnkaa.code

/-- A box with more ice and room, in which no more melts. -/
structure Box.Colder (a b : Box) : Prop where
  ok : b.Ok
  room : a.room ≤ b.room
  il : a.il ≤ b.il
  ih : a.ih ≤ b.ih
  ml : b.ml ≤ a.ml
  mh : b.mh = a.mh
  w : b.cl = a.cl ∧ b.ch = a.ch ∧ b.wl = a.wl ∧ b.wh = a.wh

theorem box_wide (bs : List Box) : ∀ r ∈ bs.map Box.cells, r.length = 9 := by
  intro r hr
  obtain ⟨f, _, rfl⟩ := List.mem_map.mp hr
  rfl

set_option maxHeartbeats 8000000 in
theorem colder_round (n : Nat) (hn : 5 ≤ n) (cx : Ctx) (bs : List Box) (a b : Int) (w1 w2 w3 : AV) (d p7 lo n1 i : Nat) (L : Env) (s : St) (hi : i < bs.length) (hB : (bs[i]).Ok) (hB5 : (bs[i]).room ≤ 500) (hd : Die d s.h) (hdl : d < lo) (hlo : lo ≤ n1) (hn1 : n1 ≤ p7) (hp7 : p7 < s.n) (hs : s.n + 1000 ≤ far) (hk : bs.length ≤ 6)
    (g7 : s.h.get p7 = some (.cells [.int .i64 a, .int .i64 b, w1, w2, w3] (tag 31))) (own : Own s.h lo n1 9 (tag 79) (bs.map Box.cells) w1)
    (l3 : L.find 3 = .ptr d 0) (l7 : L.find 7 = .ptr p7 0) (l9 : L.find 9 = .int .i64 i) :
    ∃ L1 s1 B, K8l0 (knows 23 (call Try.prog X n)) cx L [] s = .done .norm L1 [] s1 ∧ (∀ t, t = 3 ∨ t = 4 ∨ t = 5 ∨ t = 6 ∨ t = 7 → L1.find t = L.find t) ∧ L1.find 9 = .int .i64 ((i : Int) + 1) ∧ (bs[i]).Colder B ∧
      Own s1.h lo n1 9 (tag 79) ((bs.set i B).map Box.cells) w1 ∧ Die d s1.h ∧ (∀ c, c < s.n → c ≠ d → (c < lo ∨ n1 ≤ c) → s1.h.get c = s.h.get c) ∧ s.n ≤ s1.n ∧ s1.n ≤ s.n + 5 := by
  have hff : far = 1000000000 := rfl
  have kn14 : ∀ args s, knows 23 (call Try.prog X n) (.fn 14) args s = call Try.prog X n (.fn 14) args s := fun _ _ => rfl
  have kn31 : ∀ args s, knows 23 (call Try.prog X n) (.fn 31) args s = call Try.prog X n (.fn 31) args s := fun _ _ => rfl
  have e0 : decide ((i : Int) < (bs.length : Int)) = true := by simp; omega
  obtain ⟨bb, hb0, hb1, rfl, gb⟩ : ∃ bb, lo ≤ bb ∧ bb < n1 ∧ w1 = .slice bb 0 bs.length bs.length true ∧ s.h.get bb = some (.cells (bs.map Box.cells).flatten (9 + tag 79)) := by
    rcases own.is with ⟨h, _⟩ | ⟨_, bb, h1, h2, h3, h4⟩
    · rw [List.map_eq_nil_iff] at h; subst h; simp at hi
    · rw [List.length_map] at h3; exact ⟨bb, h1, h2, h3, h4⟩
  have hil : i < (bs.map Box.cells).length := by rw [List.length_map]; exact hi
  have hw := box_wide bs
  obtain ⟨room, il, ih, ml, mh, cl, ch, wl, wh, hBe⟩ : ∃ room il ih ml mh cl ch wl wh, bs[i] = ⟨room, il, ih, ml, mh, cl, ch, wl, wh⟩ := ⟨_, _, _, _, _, _, _, _, _, rfl⟩
  have hset : (bs.map Box.cells).set i [.int .i64 room, .int .i64 il, .int .i64 ih, .int .i64 ml, .int .i64 mh, .int .i64 cl, .int .i64 ch, .int .i64 wl, .int .i64 wh] = bs.map Box.cells := by
    have : (bs.map Box.cells)[i] = [.int .i64 room, .int .i64 il, .int .i64 ih, .int .i64 ml, .int .i64 mh, .int .i64 cl, .int .i64 ch, .int .i64 wl, .int .i64 wh] := by rw [List.getElem_map, hBe]; rfl
    rw [← this, List.set_getElem_self]
  rw [hBe] at hB hB5
  obtain ⟨o1, o2, o3, o4, o5, o6, o7, o8, o9, o10, o11, o12, o13⟩ := hB
  simp only at o1 o2 o3 o4 o5 o6 o7 o8 o9 o10 o11 o12 o13 hB5
  rw [← hset] at gb
  simp (disch := first | omega | (with_unfolding_all exact rfl) | (simp only [new_n, put_n, new_m]; omega) | (refine put_m_le ?_; simp only [new_m]; omega)) only [K8l0, K8r9, K8r10, K8r11, walk0, walk1, walk2, walk3, walk4, walk5, walk6, walk7, List.nil_append, List.append_nil, List.cons_append, reduceIte, Nat.reduceEqDiff, Nat.reduceAdd, Bool.not_true, Bool.not_false, decide_true, decide_false, kLoop_def, Nat.reduceSub, List.length_cons, List.length_nil, Env.find_set, l3, l7, l9, g7, e0, kn14, ixs_slice _ _ _ _ _ _ _ _ hi, Nat.zero_add]
  generalize hc1 : call _ _ _ (.fn 14) _ _ = r1
  obtain ⟨x, t1, rfl, st1, d1, x0, x1⟩ := cast_ex hc1 (by omega) hd (by omega) (by omega) (by omega)
  have n1' : s.n ≤ t1.n := st1.n
  have k1 : t1.n ≤ s.n := st1.le
  have gb1 := (st1.same bb (by omega) (by omega)).trans gb
  have a1 : ∀ s, aAdd s .i64 room x = .val (.int .i64 (room + x)) s := fun s => aAdd_i64 s _ _ (by omega)
  have a2 : ∀ s, aAdd s .i64 il x = .val (.int .i64 (il + x)) s := fun s => aAdd_i64 s _ _ (by omega)
  have a3 : ∀ s, aAdd s .i64 ih x = .val (.int .i64 (ih + x)) s := fun s => aAdd_i64 s _ _ (by omega)
  have a4 : ∀ s, aAdd s .i64 (i : Int) 1 = .val (.int .i64 ((i : Int) + 1)) s := fun s => aAdd_i64 s _ _ (by omega)
  simp (disch := first | omega | (with_unfolding_all exact rfl) | (simp only [new_n, put_n, new_m]; omega) | (refine put_m_le ?_; simp only [new_m]; omega)) only [K8r12, walk0, walk1, walk2, walk3, walk4, walk5, walk6, walk7, List.nil_append, List.append_nil, List.cons_append, reduceIte, Nat.reduceEqDiff, Nat.reduceAdd, Bool.not_true, Bool.not_false, decide_true, decide_false, kLoop_def, Nat.reduceSub, List.length_cons, List.length_nil, Env.find_set, l3, l7, l9, gb1, a1, a2, a3, nth_cell hw hil, nth_cell0 hw hil, over_cell hw hil, over_cell0 hw hil, List.set_cons_zero, List.set_cons_succ, Nat.add_assoc, Nat.reduceAdd, Nat.add_zero, Nat.zero_add, endO_nil, regD_ok]
  generalize hy : St.put (St.put (St.put t1 bb _) bb _) bb _ = y
  have yn : y.n = t1.n := by rw [← hy]; rfl
  have yg : ∀ c, c ≠ bb → y.h.get c = t1.h.get c := fun c hc => by rw [← hy, get_put_ne' _ _ _ _ hc, get_put_ne' _ _ _ _ hc, get_put_ne' _ _ _ _ hc]
  have yb : y.h.get bb = some (.cells ((bs.map Box.cells).set i [.int .i64 (room + x), .int .i64 (il + x), .int .i64 (ih + x), .int .i64 ml, .int .i64 mh, .int .i64 cl, .int .i64 ch, .int .i64 wl, .int .i64 wh]).flatten (9 + tag 79)) := by rw [← hy]; exact get_put_eq _ _ _ _ rfl (by omega)
  have dy : Die d y.h := by obtain ⟨f, hf'⟩ := d1; exact ⟨f, by rw [yg _ (by omega)]; exact hf'⟩
  clear hy
  simp (disch := first | omega | (with_unfolding_all exact rfl) | (simp only [new_n, put_n, new_m]; omega) | (refine put_m_le ?_; simp only [new_m]; omega)) only [K8r13, walk0, walk1, walk2, walk3, walk4, walk5, walk6, walk7, List.nil_append, List.append_nil, List.cons_append, reduceIte, Nat.reduceEqDiff, Nat.reduceAdd, Bool.not_true, Bool.not_false, decide_true, decide_false, kLoop_def, Nat.reduceSub, List.length_cons, List.length_nil, Env.find_set, l3, kn31, yb, nth_cell hw hil, nth_cell0 hw hil, Nat.add_assoc, Nat.reduceAdd, Nat.add_zero, Nat.zero_add]
  generalize hc2 : call _ _ _ (.fn 31) _ _ = r2
  obtain ⟨ml', t2, rfl, st2, d2, m0, m1⟩ := from_ex hc2 (by omega) dy (by omega) (by omega) (by omega) (by omega) (by omega) (by omega)
  have n2' : y.n ≤ t2.n := st2.n
  have k2 : t2.n ≤ y.n := st2.le
  have gb2 := (st2.same bb (by omega) (by omega)).trans yb
  simp (disch := first | omega | (with_unfolding_all exact rfl) | (simp only [new_n, put_n, new_m]; omega) | (refine put_m_le ?_; simp only [new_m]; omega)) only [K8r14, walk0, walk1, walk2, walk3, walk4, walk5, walk6, walk7, List.nil_append, List.append_nil, List.cons_append, reduceIte, Nat.reduceEqDiff, Nat.reduceAdd, Bool.not_true, Bool.not_false, decide_true, decide_false, kLoop_def, Nat.reduceSub, List.length_cons, List.length_nil, Env.find_set, l3, l7, l9, gb2, a4, over_cell hw hil, over_cell0 hw hil, List.set_cons_zero, List.set_cons_succ, Nat.add_assoc, Nat.reduceAdd, Nat.add_zero, Nat.zero_add]
  refine ⟨_, _, ⟨room + x, il + x, ih + x, ml', mh, cl, ch, wl, wh⟩, rfl, fun t ht => ?_, ?_, ?_, ⟨?_, .inr ⟨?_, bb, hb0, hb1, ?_, ?_⟩⟩, ?_, fun c hc hcd hcl => ?_, ?_, ?_⟩
  · rcases ht with rfl | rfl | rfl | rfl | rfl <;> simp only [Env.find_set, reduceIte, Nat.reduceEqDiff]
  · simp only [Env.find_set, reduceIte, Nat.reduceEqDiff]
  · rw [hBe]
    exact ⟨⟨by simp only; omega, by simp only; omega, by simp only; omega, by simp only; omega, by simp only; omega, by simp only; omega, by simp only; omega, o8, o9, o10, o11, o12, o13⟩, by simp only; omega, by simp only; omega, by simp only; omega, by simp only; omega, rfl, rfl, rfl, rfl, rfl⟩
  · exact box_wide _
  · intro h
    have := congrArg List.length h
    rw [List.length_map, List.length_set, List.length_nil] at this
    omega
  · rw [List.length_map, List.length_set]
  · rw [List.map_set]
    exact get_put_eq _ _ _ _ rfl (by omega)
  · obtain ⟨f, hf'⟩ := d2
    exact ⟨f, by rw [get_put_ne' _ _ _ _ (by omega)]; exact hf'⟩
  · rw [get_put_ne' _ _ _ _ (by omega), st2.same c (by omega) hcd, yg c (by omega), st1.same c hc hcd]
  · simp only [put_n]; omega
  · simp only [put_n]; omega
end Go.Proofs.Ythambbefgbhnkaa.walk
set_option maxRecDepth 10000
namespace Go.Proofs.Ythambbefgbhnkaa.walk
open Go.Abs Go.Proofs.Ythambbefgbhnkaa.code

/-- A cellar with a colder hall, and boxes that are colder one by one. -/
structure Cellar.Colder (c d : Cellar) : Prop where
  hl : d.hl ≤ c.hl
  hh : d.hh ≤ c.hh
  len : d.boxes.length = c.boxes.length
  box : ∀ j (h : j < c.boxes.length), (c.boxes[j]).Colder (d.boxes[j]'(by omega))
  f : d.fills = c.fills
  r : d.rates = c.rates
theorem Cellar.Colder.ok {c d : Cellar} (h : c.Colder d) (ok : c.Ok) (h0 : -300 ≤ d.hl) (h1 : d.hl ≤ d.hh) : d.Ok := by
  refine ⟨h0, h1, by have := ok.h2; have := h.hh; omega, by rw [h.len]; exact ok.b, fun b hb => ?_, by rw [h.f]; exact ok.f, fun f hf => ?_, ?_, by rw [h.r]; exact ok.r0, by rw [h.r]; exact ok.r, by rw [h.r]; exact ok.rok, ?_⟩
  · obtain ⟨j, hj, rfl⟩ := List.getElem_of_mem hb
    exact (h.box j (by rw [← h.len]; exact hj)).ok
  · rw [h.len]; exact ok.fok f (by rw [← h.f]; exact hf)
  · have := ok.fo
    rw [← h.f] at this
    exact this
  · have := ok.ro
    rw [← h.r] at this
    exact this
theorem Cellar.Colder.at_le {c d : Cellar} (h : c.Colder d) (ok : c.Ok) (l : Lot) (okl : l.Ok c.boxes.length) (k : Nat) : (d.at l k).1 ≤ (c.at l k).1 ∧ (d.at l k).2 ≤ (c.at l k).2 := by
  unfold Cellar.at
  cases hf : l.stays.find? (hit k) with
  | none => exact ⟨h.hl, h.hh⟩
  | some t =>
    have ht := okl.sok t (List.mem_of_find?_eq_some hf)
    obtain ⟨b, hb⟩ : ∃ b : Nat, t.box = b := ⟨t.box.toNat, by have := ht.b0; omega⟩
    have hlt : b < c.boxes.length := by have := ht.b1; omega
    simp only [hb, Int.toNat_natCast]
    have e1 : c.box b = c.boxes[b] := by unfold Cellar.box; rw [List.getD_eq_getElem?_getD, List.getElem?_eq_getElem hlt]; rfl
    have e2 : d.box b = d.boxes[b]'(by rw [h.len]; exact hlt) := by unfold Cellar.box; rw [List.getD_eq_getElem?_getD, List.getElem?_eq_getElem (by rw [h.len]; exact hlt)]; rfl
    have hc := h.box b hlt
    have okb := ok.bok _ (List.getElem_mem hlt)
    rw [← e1, ← e2] at hc
    rw [← e1] at okb
    have ef : d.of b = c.of b := by unfold Cellar.of; rw [h.f]
    have i1 : c.iceLo b k ≤ d.iceLo b k := by
      unfold Cellar.iceLo
      rw [ef, hc.mh]
      exact lev_mono hc.room (fun _ => Int.le_refl _) k 0 _ _ _ hc.il
    have i2 : c.iceHi b k ≤ d.iceHi b k := by
      unfold Cellar.iceHi
      rw [ef]
      exact lev_mono hc.room (fun _ => hc.ml) k 0 _ _ _ hc.ih
    obtain ⟨w1, w2, w3, w4⟩ := hc.w
    obtain ⟨_, _, _, _, _, _, _, _, _, c1, c2, c3, _⟩ := okb
    unfold Cellar.warm
    rw [w1, w2, w3, w4]
    refine ⟨?_, ?_⟩
    · show (if 0 < d.iceHi b k then (c.box b).cl else (c.box b).wl) ≤ (if 0 < c.iceHi b k then (c.box b).cl else (c.box b).wl)
      split <;> split <;> omega
    · show (if 0 < d.iceLo b k then (c.box b).ch else (c.box b).wh) ≤ (if 0 < c.iceLo b k then (c.box b).ch else (c.box b).wh)
      split <;> split <;> omega
theorem Cellar.Colder.lost {c d : Cellar} (h : c.Colder d) (ok : c.Ok) (okd : d.Ok) (l : Lot) (okl : l.Ok c.boxes.length) (m : Nat) (hm : l.born + m ≤ 240) : (d.lost l m).1 ≤ (c.lost l m).1 ∧ (d.lost l m).2 ≤ (c.lost l m).2 := by
  obtain ⟨h1, h2⟩ := Cellar.lost_le d c okd h.r l (by rw [h.len]; exact okl) okl m hm
  exact ⟨h1 fun k _ => (h.at_le ok l okl k).1, h2 fun k _ => (h.at_le ok l okl k).2⟩
theorem Cellar.Colder.last {c d : Cellar} (h : c.Colder d) (ok : c.Ok) (okd : d.Ok) (l : Lot) (okl : l.Ok c.boxes.length) : c.last l ≤ d.last l := by
  obtain ⟨a1, a2, _⟩ := c.last_spec l
  obtain ⟨b1, _, b3⟩ := d.last_spec l
  have hb := okl.b1
  by_cases hlt : c.last l ≤ d.last l
  · exact hlt
  · exfalso
    rcases b3 with b3 | b3
    · omega
    · rcases a2 with a2 | a2
      · omega
      · have h1 := (h.lost ok okd l okl (d.last l + 1) (by omega)).2
        have h2 := (c.lost_up ok l (d.last l + 1) (c.last l - (d.last l + 1))).2
        rw [show d.last l + 1 + (c.last l - (d.last l + 1)) = c.last l by omega] at h2
        omega
end Go.Proofs.Ythambbefgbhnkaa.walk
set_option maxRecDepth 10000
namespace Go.Proofs.Ythambbefgbhnkaa.walk
open Go.Abs Go.Proofs.Ythambbefgbhnkaa.code

set_option maxHeartbeats 4000000 in
theorem colder_loop {r : R} (n : Nat) (hn : 5 ≤ n) (cx : Ctx) (bs0 : List Box) (hok : ∀ b ∈ bs0, b.Ok ∧ b.room ≤ 500) (a b : Int) (w1 w2 w3 : AV) (d p7 lo n1 : Nat) (L : Env) (s : St) (hr : loopN K8l0 rounds (knows 23 (call Try.prog X n)) cx L [] s = r) (hd : Die d s.h) (hdl : d < lo) (hlo : lo ≤ n1) (hn1 : n1 ≤ p7) (hp7 : p7 < s.n) (hs : s.n + 2000 ≤ far) (hk : bs0.length ≤ 6)
    (g7 : s.h.get p7 = some (.cells [.int .i64 a, .int .i64 b, w1, w2, w3] (tag 31))) (own : Own s.h lo n1 9 (tag 79) (bs0.map Box.cells) w1)
    (l3 : L.find 3 = .ptr d 0) (l7 : L.find 7 = .ptr p7 0) (l9 : L.find 9 = .int .i64 0) :
    ∃ (L1 : Env) (s1 : St) (bs : List Box), r = .done (.exit 0) L1 [] s1 ∧ (∀ t, t = 3 ∨ t = 4 ∨ t = 5 ∨ t = 6 ∨ t = 7 → L1.find t = L.find t) ∧ bs.length = bs0.length ∧ (∀ j (h : j < bs0.length) (h' : j < bs.length), (bs0[j]).Colder bs[j]) ∧
      Own s1.h lo n1 9 (tag 79) (bs.map Box.cells) w1 ∧ Die d s1.h ∧ (∀ c, c < s.n → c ≠ d → (c < lo ∨ n1 ≤ c) → s1.h.get c = s.h.get c) ∧ s.n ≤ s1.n ∧ s1.n ≤ s.n + 5 * bs0.length := by
  have hff : far = 1000000000 := rfl
  obtain ⟨e, L1, s1, rfl, rfl, h⟩ := loop_of hr
    (fun i L' t => ∃ bs : List Box, bs.length = bs0.length ∧ (∀ j (h : j < bs0.length) (h' : j < bs.length), (j < i → (bs0[j]).Colder bs[j]) ∧ (i ≤ j → bs[j] = bs0[j])) ∧ (∀ t, t = 3 ∨ t = 4 ∨ t = 5 ∨ t = 6 ∨ t = 7 → L'.find t = L.find t) ∧ L'.find 9 = .int .i64 i ∧
      Own t.h lo n1 9 (tag 79) (bs.map Box.cells) w1 ∧ Die d t.h ∧ (∀ c, c < s.n → c ≠ d → (c < lo ∨ n1 ≤ c) → t.h.get c = s.h.get c) ∧ s.n ≤ t.n ∧ t.n ≤ s.n + 5 * i)
    (fun e L1 s1 => e = .exit 0 ∧ ∃ bs : List Box, (∀ t, t = 3 ∨ t = 4 ∨ t = 5 ∨ t = 6 ∨ t = 7 → L1.find t = L.find t) ∧ bs.length = bs0.length ∧ (∀ j (h : j < bs0.length) (h' : j < bs.length), (bs0[j]).Colder bs[j]) ∧
      Own s1.h lo n1 9 (tag 79) (bs.map Box.cells) w1 ∧ Die d s1.h ∧ (∀ c, c < s.n → c ≠ d → (c < lo ∨ n1 ≤ c) → s1.h.get c = s.h.get c) ∧ s.n ≤ s1.n ∧ s1.n ≤ s.n + 5 * bs0.length)
    bs0.length (by unfold rounds; omega)
    ⟨bs0, rfl, fun j h h' => ⟨fun h => absurd h (Nat.not_lt_zero _), fun _ => rfl⟩, fun _ _ => rfl, l9, own, hd, fun _ _ _ _ => rfl, Nat.le_refl _, Nat.le_refl _⟩
    (fun i L' t hi ⟨bs, q1, q2, q3, q4, q5, q6, q7, q8, q9⟩ => by
      have g7t := (q7 p7 hp7 (by omega) (.inr hn1)).trans g7
      by_cases hlt : i < bs0.length
      · have hib : i < bs.length := by omega
        have hbe := (q2 i hlt hib).2 (Nat.le_refl _)
        have hbo := hok _ (List.getElem_mem hlt)
        obtain ⟨L1, s1, B, p0, p1, p2, p3, p4, p5, p6, p7', p8⟩ := colder_round n hn cx bs a b w1 w2 w3 d p7 lo n1 i L' t hib (by rw [hbe]; exact hbo.1) (by rw [hbe]; exact hbo.2) q6 hdl hlo hn1 (by omega) (by omega) (by omega) g7t q5 ((q3 3 (by simp)).trans l3) ((q3 7 (by simp)).trans l7) q4
        refine .inl ⟨hlt, L1, s1, p0, bs.set i B, by rw [List.length_set]; exact q1, fun j h h' => ⟨fun hj => ?_, fun hj => ?_⟩, fun q hq => (p1 q hq).trans (q3 q hq), by rw [p2]; rfl, p4, p5, fun c hc hcd hcl => (p6 c (by omega) hcd hcl).trans (q7 c hc hcd hcl), by omega, by omega⟩
        · rw [List.length_set] at h'
          by_cases e : j = i
          · subst e
            rw [List.getElem_set_self, ← hbe]; exact p3
          · rw [List.getElem_set_ne (by omega)]
            exact (q2 j h h').1 (by omega)
        · rw [List.length_set] at h'
          rw [List.getElem_set_ne (by omega)]
          exact (q2 j h h').2 (by omega)
      · obtain rfl : i = bs0.length := by omega
        have e0 : decide ((bs0.length : Int) < (bs0.length : Int)) = false := by simp
        have len1 := q5.seq.at_.len
        rw [List.length_map, q1] at len1
        obtain ⟨ok1, _, _⟩ := q5.seq.scalar
        refine .inr ⟨.exit 0, L'.set 52 (.bool false), t, by simp, ?_, rfl, bs, fun q hq => ?_, q1, fun j h h' => (q2 j h h').1 h, q5, q6, q7, q8, q9⟩
        · simp (disch := first | omega | (with_unfolding_all exact rfl) | (simp only [new_n, put_n, new_m]; omega) | (refine put_m_le ?_; simp only [new_m]; omega)) only [K8l0, K8r9, walk0, walk1, walk2, walk3, walk4, walk5, walk6, walk7, List.nil_append, List.append_nil, List.cons_append, reduceIte, Nat.reduceEqDiff, Nat.reduceAdd, Bool.not_true, Bool.not_false, decide_true, decide_false, kLoop_def, Nat.reduceSub, List.length_cons, List.length_nil, Env.find_set, (q3 7 (by simp)).trans l7, q4, g7t, ok1, len1, e0, Nat.zero_add]
        · rw [← q3 q hq]
          rcases hq with rfl | rfl | rfl | rfl | rfl <;> simp only [Env.find_set, reduceIte, Nat.reduceEqDiff])
  obtain ⟨bs, h1, h2, h3, h4, h5, h6, h7, h8⟩ := h
  exact ⟨L1, s1, bs, rfl, h1, h2, h3, h4, h5, h6, h7, h8⟩

noncomputable def ccRest : K := kSeq (kRegion K8r2 [4]) (kSeq (kRegion K8r3 [5]) (kSeq (kRegion K8r4 [6]) (kSeq (kRegion K8r5 [7]) (kSeq (kRegion K8r6 [8]) (kSeq (kRegion K8r7 []) (kSeq (kSeq (kRegion K8r8 [9]) (kBlock 0 (kLoop K8l0))) (kSeq (kRegion K8r15 [12, 13]) (kSeq (kRegion K8r16 [14, 15]) (kSeq (kRegion K8r17 [16, 17]) (kSeq (kRegion K8r18 [18, 19]) (kSeq (kRegion K8r19 [2]) kRet)))))))))))

theorem own_scal {h : Heap} {lo n w tg : Nat} {rows : List (List AV)} {v : AV} (r : Own h lo n w tg rows v) : v.scalar = true := by
  rcases r.is with ⟨_, h2 | ⟨b, _, _, h2, _⟩⟩ | ⟨_, b, _, _, h2, _⟩ <;> subst h2 <;> rfl

set_option maxHeartbeats 8000000 in
theorem cc_body (n : Nat) (hn : 13 ≤ n) (cx : Ctx) (s : St) (d : Nat) (hd : Die d s.h) (hdn : d < s.n) (hs : s.n + 900000 ≤ far) (hm : s.m = far) :
    ∃ s', finA Try.prog Try.f8 (ccRest (knows 23 (call Try.prog X n)) cx (.cons 3 (.ptr d 0) .nil) [] s) = .val (.bool true) s' := by
  have hff : far = 1000000000 := rfl
  have kn12 : ∀ args s, knows 23 (call Try.prog X n) (.fn 11) args s = call Try.prog X n (.fn 11) args s := fun _ _ => rfl
  have kn13 : ∀ args s, knows 23 (call Try.prog X n) (.fn 12) args s = call Try.prog X n (.fn 12) args s := fun _ _ => rfl
  have knH : ∀ args s, knows 23 (call Try.prog X n) (.fn 13) args s = call Try.prog X n (.fn 13) args s := fun _ _ => rfl
  have knC : ∀ args s, knows 23 (call Try.prog X n) (.fn 38) args s = call Try.prog X n (.fn 38) args s := fun _ _ => rfl
  have kn14 : ∀ args s, knows 23 (call Try.prog X n) (.fn 14) args s = call Try.prog X n (.fn 14) args s := fun _ _ => rfl
  have knL : ∀ args s, knows 23 (call Try.prog X n) (.fn 15) args s = call Try.prog X n (.fn 15) args s := fun _ _ => rfl
  have knA : ∀ args s, knows 23 (call Try.prog X n) (.fn 28) args s = call Try.prog X n (.fn 28) args s := fun _ _ => rfl
  have kn24 : ∀ s, knows 23 (call Try.prog X n) (.fn 23) [] s = .val (.bool true) s := fun _ => rfl
  have ex0 : ∀ (a b : AV) (s : St), extA 0 s (.tup [a, b]) = .val a s := fun _ _ _ => rfl
  have ex1 : ∀ (a b : AV) (s : St), extA 1 s (.tup [a, b]) = .val b s := fun _ _ _ => rfl
  unfold ccRest
  simp (disch := first | omega | (with_unfolding_all exact rfl) | (simp only [new_n, put_n, new_m]; omega) | (refine put_m_le ?_; simp only [new_m]; omega)) only [K8r2, walk0, walk1, walk2, walk3, walk4, walk5, walk6, walk7, List.nil_append, List.append_nil, List.cons_append, reduceIte, Nat.reduceEqDiff, Nat.reduceAdd, Bool.not_true, Bool.not_false, decide_true, decide_false, kLoop_def, Nat.reduceSub, List.length_cons, List.length_nil, Env.find_set, kn12]
  generalize hc1 : call _ _ _ (.fn 11) _ _ = r1
  obtain ⟨c, v1, v2, v3, t1, rfl, st1, d1, ⟨ok, tame⟩, hC⟩ := CellarOf_tame 3 5 hc1 (by omega) (by omega) (by omega) hd hdn (by omega)
  have n1 : s.n ≤ t1.n := st1.n
  have k1 : t1.n ≤ s.n + 1000 := st1.le
  obtain ⟨ok1, c1, sc1⟩ := hC.b.scalar
  obtain ⟨ok2, c2, sc2⟩ := hC.f.scalar
  obtain ⟨ok3, c3, sc3⟩ := hC.r.scalar
  have len1 := hC.b.len
  rw [List.length_map] at len1
  simp (disch := first | omega | (with_unfolding_all exact rfl) | (simp only [new_n, put_n, new_m]; omega) | (refine put_m_le ?_; simp only [new_m]; omega)) only [walk0, walk1, walk2, walk3, walk4, walk5, walk6, walk7, List.nil_append, List.append_nil, List.cons_append, reduceIte, Nat.reduceEqDiff, Nat.reduceAdd, Bool.not_true, Bool.not_false, decide_true, decide_false, kLoop_def, Nat.reduceSub, List.length_cons, List.length_nil, Env.find_set, sc1, sc2, sc3, scal_nil]
  obtain ⟨y, hy⟩ : ∃ y : St, y = (t1.new (.cells [.int .i64 0, .int .i64 0, .nilslice, .nilslice, .nilslice] (tag 31))).put t1.n (.cells [.int .i64 c.hl, .int .i64 c.hh, v1, v2, v3] (tag 31)) := ⟨_, rfl⟩
  rw [← hy]
  have yn : y.n = t1.n + 1 := by rw [hy]; rfl
  have yg : ∀ c, c ≠ t1.n → y.h.get c = t1.h.get c := fun c hc => by rw [hy, get_put_ne' _ _ _ _ hc, get_new_ne _ _ _ hc]
  have y4 : y.h.get t1.n = some (.cells [.int .i64 c.hl, .int .i64 c.hh, v1, v2, v3] (tag 31)) := by rw [hy]; exact get_put_eq _ _ _ _ rfl (by omega)
  have dy : Die d y.h := by obtain ⟨f, hf'⟩ := d1; exact ⟨f, by rw [yg _ (by omega)]; exact hf'⟩
  clear hy
  simp (disch := first | omega | (with_unfolding_all exact rfl) | (simp only [new_n, put_n, new_m]; omega) | (refine put_m_le ?_; simp only [new_m]; omega)) only [K8r3, walk0, walk1, walk2, walk3, walk4, walk5, walk6, walk7, List.nil_append, List.append_nil, List.cons_append, reduceIte, Nat.reduceEqDiff, Nat.reduceAdd, Bool.not_true, Bool.not_false, decide_true, decide_false, kLoop_def, Nat.reduceSub, List.length_cons, List.length_nil, Env.find_set, y4, kn13, Nat.zero_add]
  generalize hc2 : call _ _ _ (.fn 12) _ _ = r2
  obtain ⟨l, v4, t2, rfl, st2, d2, okl, b9, hR⟩ := LotOf_ex (k := c.boxes.length) 4 hc2 (by omega) (by omega) dy (by omega) (by omega) (by have := ok.b; omega) len1 ok1
  have n2 : y.n ≤ t2.n := st2.n
  have k2 : t2.n ≤ y.n + 1000 := st2.le
  obtain ⟨ok4, c4, sc4⟩ := hR.scalar
  have z4 := (st2.same t1.n (by omega) (by omega)).trans y4
  simp (disch := first | omega | (with_unfolding_all exact rfl) | (simp only [new_n, put_n, new_m]; omega) | (refine put_m_le ?_; simp only [new_m]; omega)) only [walk0, walk1, walk2, walk3, walk4, walk5, walk6, walk7, List.nil_append, List.append_nil, List.cons_append, reduceIte, Nat.reduceEqDiff, Nat.reduceAdd, Bool.not_true, Bool.not_false, decide_true, decide_false, kLoop_def, Nat.reduceSub, List.length_cons, List.length_nil, Env.find_set, sc4, scal_nil]
  obtain ⟨z, hz⟩ : ∃ z : St, z = (t2.new (.cells [.int .i64 0, .int .i64 0, .nilslice] (tag 35))).put t2.n (.cells [.int .i64 l.born, .int .i64 l.keeps, v4] (tag 35)) := ⟨_, rfl⟩
  rw [← hz]
  have zn : z.n = t2.n + 1 := by rw [hz]; rfl
  have zg : ∀ c, c ≠ t2.n → z.h.get c = t2.h.get c := fun c hc => by rw [hz, get_put_ne' _ _ _ _ hc, get_new_ne _ _ _ hc]
  have z5 : z.h.get t2.n = some (.cells [.int .i64 l.born, .int .i64 l.keeps, v4] (tag 35)) := by rw [hz]; exact get_put_eq _ _ _ _ rfl (by omega)
  have dz : Die d z.h := by obtain ⟨f, hf'⟩ := d2; exact ⟨f, by rw [zg _ (by omega)]; exact hf'⟩
  have z4' := (zg t1.n (by omega)).trans z4
  clear hz
  have b0 := okl.b0
  simp (disch := first | omega | (with_unfolding_all exact rfl) | (simp only [new_n, put_n, new_m]; omega) | (refine put_m_le ?_; simp only [new_m]; omega)) only [K8r4, walk0, walk1, walk2, walk3, walk4, walk5, walk6, walk7, List.nil_append, List.append_nil, List.cons_append, reduceIte, Nat.reduceEqDiff, Nat.reduceAdd, Bool.not_true, Bool.not_false, decide_true, decide_false, kLoop_def, Nat.reduceSub, List.length_cons, List.length_nil, Env.find_set, z5, knH, Nat.zero_add]
  generalize hc3 : call _ _ _ (.fn 13) _ _ = r3
  obtain ⟨hour, t3, rfl, st3, d3, h0, h1⟩ := HourOf_ex hc3 (by omega) dz (by omega) (by omega) ⟨b0, by omega⟩
  have n3 : z.n ≤ t3.n := st3.n
  have k3 : t3.n ≤ z.n + 10 := st3.le
  have f4 := (st3.same t1.n (by omega) (by omega)).trans z4'
  have f5 := (st3.same t2.n (by omega) (by omega)).trans z5
  have low : ∀ c, c < t3.n → c ≠ d → c < t1.n → t3.h.get c = t1.h.get c := fun c _ hcd hc => by
    rw [st3.same c (by omega) hcd, zg c (by omega), st2.same c (by omega) hcd, yg c (by omega)]
  have hC3 : CellarNew t3.h (s.n + 1) t1.n c v1 v2 v3 := hC.mono (fun b hb hbn => low b (by omega) (by omega) hbn) (Nat.le_refl _)
  have hR3 : Abs.Rows t3.h (y.n + 1) t2.n 3 (tag 91) (l.stays.map Stay.cells) v4 := hR.mono (fun b hb hbn => by rw [st3.same b (by omega) (by omega), zg b (by omega)]) (Nat.le_refl _)
  simp (disch := first | omega | (with_unfolding_all exact rfl) | (simp only [new_n, put_n, new_m]; omega) | (refine put_m_le ?_; simp only [new_m]; omega)) only [K8r5, walk0, walk1, walk2, walk3, walk4, walk5, walk6, walk7, List.nil_append, List.append_nil, List.cons_append, reduceIte, Nat.reduceEqDiff, Nat.reduceAdd, Bool.not_true, Bool.not_false, decide_true, decide_false, kLoop_def, Nat.reduceSub, List.length_cons, List.length_nil, Env.find_set, f4, knC, Nat.zero_add]
  generalize hc4 : call _ _ _ (.fn 38) _ _ = r4
  have up1 : ∀ (b : Nat), b < t1.n → b < t3.n := fun b hb => by omega
  obtain ⟨w1, w2, w3, t4, m1, m2, rfl, st4, le1, le2, le3, o1, o2, o3⟩ := CopyCellar_ex c hc4 (by omega) (hC3.b.seq.grow (n' := t3.n) (fun _ _ => rfl) (by omega)) (hC3.f.seq.grow (n' := t3.n) (fun _ _ => rfl) (by omega)) (hC3.r.seq.grow (n' := t3.n) (fun _ _ => rfl) (by omega)) (by have := ok.b; omega) ok.f (by have := ok.r; omega) (by omega)
  have n4 : t3.n ≤ t4.n := st4.n
  have k4 : t4.n ≤ t3.n + 10 := st4.le
  obtain ⟨ow1, cw1, sw1⟩ := o1.seq.scalar
  obtain ⟨ow2, cw2, sw2⟩ := o2.seq.scalar
  obtain ⟨ow3, cw3, sw3⟩ := o3.seq.scalar
  simp (disch := first | omega | (with_unfolding_all exact rfl) | (simp only [new_n, put_n, new_m]; omega) | (refine put_m_le ?_; simp only [new_m]; omega)) only [walk0, walk1, walk2, walk3, walk4, walk5, walk6, walk7, List.nil_append, List.append_nil, List.cons_append, reduceIte, Nat.reduceEqDiff, Nat.reduceAdd, Bool.not_true, Bool.not_false, decide_true, decide_false, kLoop_def, Nat.reduceSub, List.length_cons, List.length_nil, Env.find_set, sw1, sw2, sw3, scal_nil]
  obtain ⟨x, hx⟩ : ∃ x : St, x = (t4.new (.cells [.int .i64 0, .int .i64 0, .nilslice, .nilslice, .nilslice] (tag 31))).put t4.n (.cells [.int .i64 c.hl, .int .i64 c.hh, w1, w2, w3] (tag 31)) := ⟨_, rfl⟩
  rw [← hx]
  have xn : x.n = t4.n + 1 := by rw [hx]; rfl
  have xg : ∀ c, c ≠ t4.n → x.h.get c = t4.h.get c := fun c hc => by rw [hx, get_put_ne' _ _ _ _ hc, get_new_ne _ _ _ hc]
  have x7 : x.h.get t4.n = some (.cells [.int .i64 c.hl, .int .i64 c.hh, w1, w2, w3] (tag 31)) := by rw [hx]; exact get_put_eq _ _ _ _ rfl (by omega)
  have dx : Die d x.h := by obtain ⟨f, hf'⟩ := d3; exact ⟨f, by rw [xg _ (by omega), st4.same _ (by omega)]; exact hf'⟩
  clear hx
  simp (disch := first | omega | (with_unfolding_all exact rfl) | (simp only [new_n, put_n, new_m]; omega) | (refine put_m_le ?_; simp only [new_m]; omega)) only [K8r6, walk0, walk1, walk2, walk3, walk4, walk5, walk6, walk7, List.nil_append, List.append_nil, List.cons_append, reduceIte, Nat.reduceEqDiff, Nat.reduceAdd, Bool.not_true, Bool.not_false, decide_true, decide_false, kLoop_def, Nat.reduceSub, List.length_cons, List.length_nil, Env.find_set, kn14]
  generalize hc5 : call _ _ _ (.fn 14) _ _ = r5
  obtain ⟨less, t5, rfl, st5, d5, less0, less1⟩ := cast_ex hc5 (by omega) dx (by omega) (by omega) (by omega)
  have n5 : x.n ≤ t5.n := st5.n
  have k5 : t5.n ≤ x.n := st5.le
  have t57 := (st5.same t4.n (by omega) (by omega)).trans x7
  obtain ⟨q0, q1, q2⟩ : -20 ≤ c.hl ∧ c.hl ≤ c.hh ∧ c.hh ≤ 200 := ⟨tame.h0, ok.h1, tame.h1⟩
  have a1 : ∀ s, aSub s .i64 c.hl less = .val (.int .i64 (c.hl - less)) s := fun s => aSub_i64 s _ _ (by omega)
  have a2 : ∀ s, aSub s .i64 c.hh less = .val (.int .i64 (c.hh - less)) s := fun s => aSub_i64 s _ _ (by omega)
  simp (disch := first | omega | (with_unfolding_all exact rfl) | (simp only [new_n, put_n, new_m]; omega) | (refine put_m_le ?_; simp only [new_m]; omega)) only [K8r7, K8r8, walk0, walk1, walk2, walk3, walk4, walk5, walk6, walk7, List.nil_append, List.append_nil, List.cons_append, reduceIte, Nat.reduceEqDiff, Nat.reduceAdd, Bool.not_true, Bool.not_false, decide_true, decide_false, kLoop_def, Nat.reduceSub, List.length_cons, List.length_nil, Env.find_set, t57, a1, a2, Nat.zero_add, Nat.add_zero]
  generalize hx6 : St.put (St.put t5 t4.n _) t4.n _ = x6
  have x6n : x6.n = t5.n := by rw [← hx6]; rfl
  have x6g : ∀ c, c ≠ t4.n → x6.h.get c = t5.h.get c := fun c hc => by rw [← hx6, get_put_ne' _ _ _ _ hc, get_put_ne' _ _ _ _ hc]
  have x67 : x6.h.get t4.n = some (.cells [.int .i64 (c.hl - less), .int .i64 (c.hh - less), w1, w2, w3] (tag 31)) := by rw [← hx6]; exact get_put_eq _ _ _ _ rfl (by omega)
  clear hx6
  have d6 : Die d x6.h := by obtain ⟨f, hf'⟩ := d5; exact ⟨f, by rw [x6g _ (by omega)]; exact hf'⟩
  have g46 : ∀ c, c < t4.n → c ≠ d → x6.h.get c = t4.h.get c := fun c hc hcd => by
    rw [x6g c (by omega), st5.same c (by omega) hcd, xg c (by omega)]
  generalize hlp : loopN _ rounds _ _ _ _ _ = rl
  obtain ⟨L7, t7, bs, rfl, lk, bsl, bsc, ow7, d7, fr7, n7, k7⟩ := colder_loop n (by omega) cx c.boxes (fun b hb => ⟨ok.bok b hb, tame.r b hb⟩) (c.hl - less) (c.hh - less) w1 w2 w3 d t4.n t3.n m1 _ x6 hlp d6 (by omega) (by omega) (by omega) (by omega) (by omega) (by have := tame.b; omega) x67 (o1.move (fun b hb hbn => g46 b (by omega) (by omega)) (Nat.le_refl _) (Nat.le_refl _))
    (by simp only [find_cons, Env.find_set, reduceIte, Nat.reduceEqDiff]) (by simp only [find_cons, Env.find_set, reduceIte, Nat.reduceEqDiff]) (by simp only [find_cons, Env.find_set, reduceIte, Nat.reduceEqDiff])
  have tb := tame.b
  have l74 : L7.find 4 = .ptr t1.n 0 := (lk 4 (by simp)).trans (by simp only [find_cons, Env.find_set, reduceIte, Nat.reduceEqDiff])
  have l75 : L7.find 5 = .ptr t2.n 0 := (lk 5 (by simp)).trans (by simp only [find_cons, Env.find_set, reduceIte, Nat.reduceEqDiff])
  have l76 : L7.find 6 = .int .i64 hour := (lk 6 (by simp)).trans (by simp only [find_cons, Env.find_set, reduceIte, Nat.reduceEqDiff])
  have l77 : L7.find 7 = .ptr t4.n 0 := (lk 7 (by simp)).trans (by simp only [find_cons, Env.find_set, reduceIte, Nat.reduceEqDiff])
  clear lk
  have g37 : ∀ c, c < t3.n → c ≠ d → t7.h.get c = t3.h.get c := fun c hc hcd => by
    rw [fr7 c (by omega) hcd (.inl hc), g46 c (by omega) hcd, st4.same c hc]
  have e4 := (g37 t1.n (by omega) (by omega)).trans f4
  have e5 := (g37 t2.n (by omega) (by omega)).trans f5
  have e7 := (fr7 t4.n (by omega) (by omega) (.inr (by omega))).trans x67
  obtain ⟨c', hc'⟩ : ∃ c' : Cellar, c' = ⟨c.hl - less, c.hh - less, bs, c.fills, c.rates⟩ := ⟨_, rfl⟩
  have col : c.Colder c' := by
    rw [hc']
    exact ⟨by simp only; omega, by simp only; omega, bsl, fun j hj => bsc j hj (by rw [bsl]; exact hj), rfl, rfl⟩
  have okc' : c'.Ok := col.ok ok (by rw [hc']; simp only; omega) (by rw [hc']; simp only; omega)
  have okl' : l.Ok c'.boxes.length := by rw [col.len]; exact okl
  have hCin : CellarIn t7.h t7.n c v1 v2 v3 := (hC3.mono (n' := t7.n) (fun b hb hbn => g37 b (by omega) (by omega)) (by omega)).in_
  have hRin : RowsAt t7.h t7.n 3 (l.stays.map Stay.cells) v4 := (hR3.mono (n' := t7.n) (fun b hb hbn => g37 b (by omega) (by omega)) (by omega)).at_
  have hCin' : CellarIn t7.h t7.n c' w1 w2 w3 := by
    rw [hc']
    have o2' : Own t7.h m1 t7.n 3 (tag 87) (c.fills.map Fill.cells) w2 := o2.move (fun b hb hbn => by rw [fr7 b (by omega) (by omega) (.inr hb), g46 b (by omega) (by omega)]) (Nat.le_refl _) (by omega)
    have o3' : Own t7.h m1 t7.n 2 (tag 89) (c.rates.map Rate.cells) w3 := o3.move (fun b hb hbn => by rw [fr7 b (by omega) (by omega) (.inr (by omega)), g46 b (by omega) (by omega)]) (by omega) (by omega)
    have o1' : Own t7.h t3.n t7.n 9 (tag 79) (bs.map Box.cells) w1 := ow7.move (fun _ _ _ => rfl) (Nat.le_refl _) (by omega)
    exact ⟨⟨o1'.seq.at_, o2'.seq.at_, o3'.seq.at_⟩, o2'.seq, own_scal o1', own_scal o3'⟩
  have s4 : v4.scalar = true := rows_scal hR
  obtain ⟨m, hmm⟩ : ∃ m : Nat, hour = l.born + m := ⟨(hour - l.born).toNat, by omega⟩
  have E1 := Lost_ok (N := n) (s := t7) (hour := hour) c ok l okl m (by omega) hCin hRin s4 hmm (by omega) (by omega)
  simp (disch := first | omega | (with_unfolding_all exact rfl) | (simp only [new_n, put_n, new_m]; omega) | (refine put_m_le ?_; simp only [new_m]; omega)) only [K8r15, walk0, walk1, walk2, walk3, walk4, walk5, walk6, walk7, List.nil_append, List.append_nil, List.cons_append, reduceIte, Nat.reduceEqDiff, Nat.reduceAdd, Bool.not_true, Bool.not_false, decide_true, decide_false, kLoop_def, Nat.reduceSub, List.length_cons, List.length_nil, Env.find_set, l74, l75, l76, l77, e4, e5, knL, E1, ex0, ex1, Nat.zero_add]
  generalize hu1 : St.put (St.new t7 _) t7.n _ = u1
  have u1n : u1.n = t7.n + 1 := by rw [← hu1]; rfl
  have u1g : ∀ c, c < t7.n → u1.h.get c = t7.h.get c := fun c hc => by rw [← hu1, get_put_ne' _ _ _ _ (by omega), get_new_ne _ _ _ (by omega)]
  have u1x : u1.h.get t7.n = some (.cells [.int .i64 (c.lost l m).1, .int .i64 (c.lost l m).2] (tag 26)) := by rw [← hu1]; exact get_put_eq _ _ _ _ rfl (by omega)
  clear hu1
  have e51 := (u1g t2.n (by omega)).trans e5
  have e41 := (u1g t1.n (by omega)).trans e4
  have e71 := (u1g t4.n (by omega)).trans e7
  have hchl : c'.hl = c.hl - less := by rw [hc']
  have hchh : c'.hh = c.hh - less := by rw [hc']
  rw [← hchl, ← hchh] at e71
  have E2 := Lost_ok (N := n) (s := u1) (hour := hour) c' okc' l okl' m (by omega) (hCin'.grow u1g (by omega)) (hRin.grow u1g (by omega)) s4 hmm (by omega) (by omega)
  simp (disch := first | omega | (with_unfolding_all exact rfl) | (simp only [new_n, put_n, new_m]; omega) | (refine put_m_le ?_; simp only [new_m]; omega)) only [K8r16, walk0, walk1, walk2, walk3, walk4, walk5, walk6, walk7, List.nil_append, List.append_nil, List.cons_append, reduceIte, Nat.reduceEqDiff, Nat.reduceAdd, Bool.not_true, Bool.not_false, decide_true, decide_false, kLoop_def, Nat.reduceSub, List.length_cons, List.length_nil, Env.find_set, l74, l75, l76, l77, e51, e71, knL, E2, ex0, ex1, Nat.zero_add]
  generalize hu2 : St.put (St.new u1 _) u1.n _ = u2
  have u2n : u2.n = u1.n + 1 := by rw [← hu2]; rfl
  have u2g : ∀ c, c < u1.n → u2.h.get c = u1.h.get c := fun c hc => by rw [← hu2, get_put_ne' _ _ _ _ (by omega), get_new_ne _ _ _ (by omega)]
  have u2y : u2.h.get u1.n = some (.cells [.int .i64 (c'.lost l m).1, .int .i64 (c'.lost l m).2] (tag 26)) := by rw [← hu2]; exact get_put_eq _ _ _ _ rfl (by omega)
  clear hu2
  have u2x := (u2g t7.n (by omega)).trans u1x
  have e52 := (u2g t2.n (by omega)).trans e51
  have e42 := (u2g t1.n (by omega)).trans e41
  have e72 := (u2g t4.n (by omega)).trans e71
  have g72 : ∀ c, c < t7.n → u2.h.get c = t7.h.get c := fun c hc => (u2g c (by omega)).trans (u1g c hc)
  have E3 := Last_ok (N := n) (s := u2) c ok l okl (by omega) (hCin.grow g72 (by omega)) (hRin.grow g72 (by omega)) s4 (by omega)
  have E4 := Last_ok (N := n) (s := u2) c' okc' l okl' (by omega) (hCin'.grow g72 (by omega)) (hRin.grow g72 (by omega)) s4 (by omega)
  simp (disch := first | omega | (with_unfolding_all exact rfl) | (simp only [new_n, put_n, new_m]; omega) | (refine put_m_le ?_; simp only [new_m]; omega)) only [K8r17, K8r18, walk0, walk1, walk2, walk3, walk4, walk5, walk6, walk7, List.nil_append, List.append_nil, List.cons_append, reduceIte, Nat.reduceEqDiff, Nat.reduceAdd, Bool.not_true, Bool.not_false, decide_true, decide_false, kLoop_def, Nat.reduceSub, List.length_cons, List.length_nil, Env.find_set, l74, l75, l76, l77, e52, e42, e72, knA, E3, E4, ex0, ex1, Nat.zero_add]
  have hl := col.lost ok okc' l okl m (by omega)
  have hla := col.last ok okc' l okl
  have m1' : decide ((c'.lost l m).1 ≤ (c.lost l m).1) = true := decide_eq_true hl.1
  have m2' : decide ((c'.lost l m).2 ≤ (c.lost l m).2) = true := decide_eq_true hl.2
  have m3' : decide (l.born + (c.last l : Int) ≤ l.born + (c'.last l : Int)) = true := decide_eq_true (by omega)
  have q0 := fun cl L s => congrFun (congrFun (congrFun K8r19.eq_1 cl) L) s
  have qs4 := fun cl L s => congrFun (congrFun (congrFun K8r19s4.eq_1 cl) L) s
  have qs5 := fun cl L s => congrFun (congrFun (congrFun K8r19s5.eq_1 cl) L) s
  have qs8 := fun cl L s => congrFun (congrFun (congrFun K8r19s8.eq_1 cl) L) s
  have qs9 := fun cl L s => congrFun (congrFun (congrFun K8r19s9.eq_1 cl) L) s
  have qs12 := fun cl L s => congrFun (congrFun (congrFun K8r19s12.eq_1 cl) L) s
  have qs13 := fun cl L s => congrFun (congrFun (congrFun K8r19s13.eq_1 cl) L) s
  have qs16 := fun cl L s => congrFun (congrFun (congrFun K8r19s16.eq_1 cl) L) s
  have qs17 := fun cl L s => congrFun (congrFun (congrFun K8r19s17.eq_1 cl) L) s
  have qs18 := fun cl L s => congrFun (congrFun (congrFun K8r19s18.eq_1 cl) L) s
  have qs19 := fun cl L s => congrFun (congrFun (congrFun K8r19s19.eq_1 cl) L) s
  have qs20 := fun cl L s => congrFun (congrFun (congrFun K8r19s20.eq_1 cl) L) s
  have qs23 := fun cl L s => congrFun (congrFun (congrFun K8r19s23.eq_1 cl) L) s
  have qs24 := fun cl L s => congrFun (congrFun (congrFun K8r19s24.eq_1 cl) L) s
  have qs25 := fun cl L s => congrFun (congrFun (congrFun K8r19s25.eq_1 cl) L) s
  have qs26 := fun cl L s => congrFun (congrFun (congrFun K8r19s26.eq_1 cl) L) s
  have qs27 := fun cl L s => congrFun (congrFun (congrFun K8r19s27.eq_1 cl) L) s
  have qs30 := fun cl L s => congrFun (congrFun (congrFun K8r19s30.eq_1 cl) L) s
  have qs31 := fun cl L s => congrFun (congrFun (congrFun K8r19s31.eq_1 cl) L) s
  have qs32 := fun cl L s => congrFun (congrFun (congrFun K8r19s32.eq_1 cl) L) s
  have qs35 := fun cl L s => congrFun (congrFun (congrFun K8r19s35.eq_1 cl) L) s
  have d0 : decide ((0 : Int) = 0) = true := rfl
  simp (config := { maxSteps := 2000000 }) (disch := first | omega | (with_unfolding_all exact rfl) | (simp only [new_n, put_n, new_m]; omega) | (refine put_m_le ?_; simp only [new_m]; omega)) only [q0, qs4, qs5, qs8, qs9, qs12, qs13, qs16, qs17, qs18, qs19, qs20, qs23, qs24, qs25, qs26, qs27, qs30, qs31, qs32, qs35, res8, walk0, walk1, walk2, walk3, walk4, walk5, walk6, walk7, List.nil_append, List.append_nil, List.cons_append, reduceIte, Nat.reduceEqDiff, Nat.reduceAdd, Bool.not_true, Bool.not_false, decide_true, decide_false, kLoop_def, Nat.reduceSub, List.length_cons, List.length_nil, Env.find_set, l74, l75, l76, l77, u2x, u2y, d0, m1', m2', m3', kn24, Nat.zero_add]
  exact ⟨_, rfl⟩
end Go.Proofs.Ythambbefgbhnkaa.walk
namespace Go.Proofs.Ythambbefgbhnkaa.mdie
open Go.RowKit

/-- A die is block b. -/
def Die (b : Nat) (w : World) : Prop := ∃ s, w.heap[b]? = some (.cells #[.int .u64 s] 84 (0, 0))
theorem Die.old {b : Nat} {w : World} (h : Die b w) : (∃ s, w.cell? ⟨b, 0, none⟩ = some (.int .u64 s)) ∧ w.frozen? ⟨b, 0, none⟩ = false := by
  obtain ⟨s, hs⟩ := h
  refine ⟨⟨s, ?_⟩, ?_⟩
  · unfold World.cell?; simp [hs]
  · unfold World.frozen?; simp [hs]

structure Stir (b : Nat) (w w' : World) : Prop where
  below : Below b w w'
  rest : ∀ p : Addr, p.block ≠ b → p.block < w.heap.size → w'.cell? p = w.cell? p ∧ w'.frozen? p = w.frozen? p
  die : Die b w'

def Gives (b : Nat) (k : IntKind) (Q : Int → Prop) (w : World) (e : Ending) (w' : World) : Prop := ∃ r, Q r ∧ e = .returned (.int k r) ∧ Stir b w w'

theorem bits_nonneg (op : BinOp) (x y : Int) : 0 ≤ bits op .u64 x y := by
  have := bounds_u64 (wf_bits (k := .u64) (op := op) (x := x) (y := y))
  exact this.1

theorem Stir.set {b : Nat} {w : World} (h : Die b w) (s : Int) : Stir b w (w.setCell ⟨b, 0, none⟩ (.int .u64 s)) := by
  obtain ⟨t, ht⟩ := h
  refine ⟨(Below.refl b w).setCell (p := ⟨b, 0, none⟩) (Nat.le_refl b) _, fun p hp _ => ⟨World.cell?_of_block (Below.heap_setCell _ _ _ _ hp), World.frozen?_of_block (Below.heap_setCell _ _ _ _ hp)⟩, ⟨s, ?_⟩⟩
  unfold World.setCell
  simp [Array.getElem?_modify, ht]

set_option maxHeartbeats 400000 in
theorem roll (b : Nat) (w : World) (h : Die b w) : Calls Try.prog 41 #[.pointer (some ⟨b, 0, none⟩)] w (Gives b .u64 (fun r => 0 ≤ r) w) := by
  have h' := Lib.hid h
  obtain ⟨⟨s, hs⟩, hf⟩ := h.old
  clear h
  go_enter Try.func41, Try.ntmps41
  go_wp2
  go_ret
  exact ⟨_, bits_nonneg _ _ _, rfl, Stir.set h'.out _⟩

theorem Stir.refl {b : Nat} {w : World} (h : Die b w) : Stir b w w := ⟨Below.refl _ _, fun _ _ _ => ⟨rfl, rfl⟩, h⟩
theorem Stir.trans {b : Nat} {u v w : World} (h : Stir b u v) (k : Stir b v w) : Stir b u w :=
  ⟨h.below.trans k.below, fun p hp hb => ⟨(k.rest p hp (Nat.lt_of_lt_of_le hb h.below.size)).1.trans (h.rest p hp hb).1, (k.rest p hp (Nat.lt_of_lt_of_le hb h.below.size)).2.trans (h.rest p hp hb).2⟩, k.die⟩
theorem Die.lt {b : Nat} {w : World} (h : Die b w) : b < w.heap.size := by obtain ⟨⟨s, hs⟩, _⟩ := h.old; exact World.block_lt_of_cell? w _ hs
theorem Stir.drew {b : Nat} {w w' : World} (h : Stir b w w') : Stir b w w'.drew := h.trans ⟨⟨rfl, rfl, rfl, Nat.le_refl _, fun _ _ => rfl⟩, fun _ _ _ => ⟨rfl, rfl⟩, h.die⟩

def Born (w : World) (e : Ending) (w' : World) : Prop := e = .returned (.pointer (some ⟨w.heap.size, 0, none⟩)) ∧ Below w.heap.size w w' ∧ Die w.heap.size w' ∧ w.heap.size < w'.heap.size

theorem Die.born (w : World) (s : Int) : Die w.heap.size (w.alloc (.cells #[.int .u64 s] 84)) := ⟨s, by show (w.heap.push _)[w.heap.size]? = _; rw [Array.getElem?_push, if_pos rfl]⟩
set_option maxRecDepth 100000 in
set_option maxHeartbeats 1600000 in
theorem born (x : Option Addr) (n c : Nat) (w : World) (hn : n ≤ maxLen) (hc : ∀ i, i < n → ∃ b o, x = some ⟨b, o, none⟩ ∧ ∃ v, w.cell? ⟨b, o + i, none⟩ = some (.int .i64 v)) :
    Calls Try.prog 10 #[.slice x n c] w (Born w) := by
  unfold maxLen at hn
  have HC := Lib.hid hc
  clear hc
  have hdie := Lib.hid (Die.born w 2611923443488327891)
  go_enter Try.func10, Try.ntmps10
  go_wp2
  go_loopw [4] (fun i wr => ∃ k : Nat, k ≤ n ∧ i = .int .i64 k ∧ Stir w.heap.size (w.alloc (.cells #[.int .u64 2611923443488327891] 84)) wr) (fun i _ => n - (intOf i).toNat)
  case atStart => exact ⟨0, Nat.zero_le _, rfl, Stir.refl hdie.out⟩
  case round =>
    obtain ⟨k, hk, rfl, hs⟩ := hrel
    by_cases hlt : k < n
    · obtain ⟨b, o, rfl, v, hv⟩ := HC.out k hlt
      have hb := World.block_lt_of_cell? _ _ hv
      simp only at hb
      have hv1 : wr.cell? ⟨b, o + k, none⟩ = some (.int .i64 v) := ((hs.rest ⟨b, o + k, none⟩ (Nat.ne_of_lt hb) (by simp; omega)).1.trans (World.cell?_of_block (Below.heap_alloc _ _ _ hb))).trans hv
      clear hv
      obtain ⟨⟨s, hd⟩, hf⟩ := hs.die.old
      have hst := Lib.hid (fun s1 : Int => (hs.drew).trans (Stir.set hs.drew.die s1))
      have hlt' : (k : Int) < (n : Int) := by omega
      have hk0 : (0 : Int) ≤ (k : Int) := by omega
      go_wp2
      go_still_tail 12, (by kernel_rfl)
      change wpList _ _ _ _ _ wr.drew
      go_wp2_with (go_at_call 41; refine (roll _ _ ?_).mono ?_; exact (hst.out _).die; rintro e w1 ⟨r, hr, rfl, hs1⟩; (have hs2 := (hst.out _).trans hs1))
      go_roundw
      case rel => exact ⟨k + 1, by omega, by go_num, hs2⟩
      case measure => simp [intOf]; omega
    · go_wp2
      go_ret
      exact ⟨rfl, ((Below.refl w.heap.size w).alloc (Nat.le_refl _) _).trans hs.below, hs.die, by have := hs.below.size; simp at this; omega⟩

end Go.Proofs.Ythambbefgbhnkaa.mdie
namespace Go.Abs
open Go.RowKit
variable {P : Program}

theorem mid_calls {cl : CallF} (hc : CallSound P cl) {f : FuncId} {fn : Func} (hf : P.funcs[f]? = some fn) {c0 c1 rest : Code} (hb : fn.body = some (.seq c0 (.seq c1 rest))) {X : FuncId → List Nat} {k : K} {A : Array Value} {W : World} {R : Ending → World → Prop}
    (h : c0.wp P (Exit.then (fun a w => c1.wp P (Exit.then (fun a w => ∃ ρ L s v s', ActRel ρ fn.ntmps L [] a ∧ Clean (X f) L ∧ SRel ρ s w ∧ finA P fn (k cl ⟨f, none, fn.ntmps, X f⟩ L [] s) = .val v s' ∧ ∀ ρ' V W', After ρ s w ρ' s' W' → VRel ρ' v V → R (.returned V) W') fun _ _ _ => False) a w) fun _ _ _ => False)
      { tmps := A ++ Array.replicate (fn.ntmps - A.size) undef, defers := [] } W)
    (hk : codeK P (X f) fn.ntmps rest = some k) : Calls P f A W R := by
  intro cs
  obtain ⟨b, hbd⟩ : ∃ b : Frame, b = { (default : Frame) with fn := f, kind := .normal } := ⟨_, rfl⟩
  have hr : b.roundOf = none := by rw [hbd]; rfl
  have henter : Frame.enter P f A .normal = b.at { tmps := A ++ Array.replicate (fn.ntmps - A.size) undef, defers := [] } [.code (.seq c0 (.seq c1 rest))] := by
    rw [hbd]; simp [Frame.enter, Frame.at, hf, hb]
  obtain ⟨e0, a0, w0, q0, ar0⟩ := h b [.code (.seq c1 rest)] cs
  cases e0 <;> simp only [Exit.then] at q0
  obtain ⟨e1, a1, w1, q1, ar1⟩ := q0 b [.code rest] cs
  cases e1 <;> simp only [Exit.then] at q1
  obtain ⟨ρ, L, s, v, s', hact, hclean, hs, hfin, hR⟩ := q1
  have st1 : Steps P (lone (Frame.enter P f A .normal) cs W) (lone (b.atR a1 [.code rest]) cs w1) := by
    rw [henter, Frame.atR_of_none hr]
    exact (Steps.head step_seq ar0).trans (Steps.head step_seq ar1)
  have hctx : CtxRel ρ ⟨f, none, fn.ntmps, X f⟩ b := ⟨by rw [hbd], by rw [hbd], fun _ => hr, fun l e => by cases e⟩
  generalize hr2 : k cl ⟨f, none, fn.ntmps, X f⟩ L [] s = r at hfin
  cases r with
  | fail => cases hfin
  | done e L1 d s₁ =>
    obtain ⟨ρ₁, a₁, W₁, af, ha₁, _, _, st⟩ := codeK_sound rest hk hc rfl rfl hctx hact hclean hs hr2
    have fin : ∀ (hle : leaveA P fn.results.toList L1 d s₁ = .val v s') (hst : ∃ t, Steps P (lone (Frame.enter P f A .normal) cs W) (lone (back b a₁ t) cs W₁)),
        ∃ V w' fr, R (.returned V) w' ∧ Steps P (lone (Frame.enter P f A .normal) cs W) (lone fr cs w') ∧ fr.fn = f ∧ fr.leaving P w' (.returned V) := by
      intro hle hst
      obtain ⟨V, W₂, af₂, hv, st₂⟩ := leaveA_calls ha₁ af.rel hle
      obtain ⟨t, st₁⟩ := hst
      obtain ⟨fr, h1, h2, h3⟩ := st₂ b (by rw [hbd]) (by rw [hbd]; exact hf) t cs
      exact ⟨V, W₂, fr, hR _ _ _ (af.trans af₂) hv, Steps.trans st₁ h1, by rw [h2, hbd], h3⟩
    cases e with
    | exit id => cases hfin
    | norm =>
      have z := st [] cs
      obtain ⟨V, w', fr, h1, h2, h3, h4⟩ := fin hfin ⟨[], st1.trans (Steps.trans z (.one (stepR_end hr)))⟩
      exact ⟨.returned V, w', fr, h1, h2, h3, h4⟩
    | ret =>
      obtain ⟨k0, z⟩ := st [] cs
      obtain ⟨V, w', fr, h1, h2, h3, h4⟩ := fin hfin ⟨.code .ret :: k0, st1.trans (z.trans (.one (stepR_ret hr)))⟩
      exact ⟨.returned V, w', fr, h1, h2, h3, h4⟩
end Go.Abs
set_option maxRecDepth 10000
namespace Go.Proofs.Ythambbefgbhnkaa.walk
open Go.Abs Go.RowKit Go.Proofs.Ythambbefgbhnkaa.code

/-- What is known of memory: a die. -/
noncomputable def die0 (F : Int) : St := St.new ⟨.nil, 0, far⟩ (.cells [.int .u64 F] (tag 84))
def rho0 (d : Nat) : Rho := fun b => if b = 0 then some (d, (0, 0)) else none
theorem die0_get {F : Int} {b : Nat} {o : AObj} (h : (die0 F).h.get b = some o) : b = 0 ∧ o = .cells [.int .u64 F] (tag 84) := by
  by_cases e : b = 0
  · subst e
    have : (die0 F).h.get 0 = some (.cells [.int .u64 F] (tag 84)) := get_new_eq _ _ _ rfl (by decide)
    rw [this] at h
    exact ⟨rfl, (Option.some.inj h).symm⟩
  · unfold die0 at h
    rw [get_new_ne _ _ _ e] at h
    cases h
theorem die0_has {F : Int} {b x : Nat} {o : AObj} (h : Has (die0 F).h b x o) : b = 0 ∧ x = 0 ∧ o = .cells [.int .u64 F] (tag 84) := by
  obtain ⟨y, hy, hp⟩ := h
  obtain ⟨rfl, rfl⟩ := die0_get hy
  have hl : AObj.lone (.cells [.int .u64 F] (tag 84)) := trivial
  rw [parts_lone hl] at hp
  have := List.mem_singleton.mp hp
  cases this
  exact ⟨rfl, rfl, rfl⟩
theorem die0_rel {F : Int} {d : Nat} {W : World} (h : W.heap[d]? = some (.cells #[.int .u64 F] 84 (0, 0))) : SRel (rho0 d) (die0 F) W := by
  refine ⟨⟨fun b o hb => ?_, fun b x o hb => ?_, fun b b' x x' o o' c e e' hb hb' _ _ => ?_, fun g cs hg => (by cases hg), fun b x o c e hb hr => rfl, fun b x x' o o' c e e' hb hb' hr hr' => ?_⟩, fun b hb => ?_⟩
  · rw [(die0_get hb).1]; decide
  · obtain ⟨rfl, rfl, rfl⟩ := die0_has hb
    exact ⟨d, (0, 0), _, if_pos rfl, h, .cells rfl (.cons (.int _ _) .nil) (Typed.tag _)⟩
  · rw [(die0_has hb).1, (die0_has hb').1]
  · obtain ⟨_, rfl, _⟩ := die0_has hb
    obtain ⟨_, rfl, _⟩ := die0_has hb'
    rw [hr] at hr'
    cases hr'
    rfl
  · have : 1 ≤ b := hb
    exact if_neg (by omega)

end Go.Proofs.Ythambbefgbhnkaa.walk
set_option maxRecDepth 10000
namespace Go.Proofs.Ythambbefgbhnkaa.walk
open Go.Abs Go.RowKit Go.Proofs.Ythambbefgbhnkaa.code

set_option maxRecDepth 100000 in
set_option maxHeartbeats 3200000 in
theorem cc_calls (a : Option Addr) (n c : Nat) (w : World) (hn : n ≤ maxLen) (hc : ∀ i, i < n → ∃ b o, a = some ⟨b, o, none⟩ ∧ ∃ v, w.cell? ⟨b, o + i, none⟩ = some (.int .i64 v)) :
    Calls Try.prog 8 #[.slice a n c] w fun e w' => e = .returned (.bool true) ∧ Below w.heap.size w w' := by
  have HC := Lib.hid hc
  clear hc
  refine mid_calls (cl := knows 23 (call Try.prog X 20)) (knows_sound (call_sound 200) Try.func23 awake.entered (call_sound 20)) Try.func8 rfl (X := X) (k := ccRest) ?_ (by kernel_rfl)
  simp only [Try.ntmps8, List.size_toArray, List.length_cons, List.length_nil, Nat.reduceAdd, Nat.reduceSub, Array.replicate_succ, Array.replicate_zero, List.push_toArray, List.append_toArray, List.nil_append, List.cons_append]
  go_wp2_with (go_at_call 10; ((with_reducible refine (mdie.born _ _ _ _ hn HC.out).mono ?_); rintro e w1 ⟨rfl, hB1, ⟨F, hF⟩, hg1⟩))
  have hd0 : walk.Die 0 (die0 F).h := ⟨F, get_new_eq _ _ _ rfl (by decide)⟩
  obtain ⟨s', hs'⟩ := cc_body 20 (by omega) ⟨8, none, Try.f8.ntmps, X 8⟩ (die0 F) 0 hd0 (by show 0 < 1; omega) (by show 1 + 900000 ≤ 1000000000; omega) rfl
  refine ⟨rho0 w.heap.size, .cons 3 (.ptr 0 0) .nil, die0 F, .bool true, s', ⟨fun t => ?_, rfl, .nil⟩, fun t ht => ?_, die0_rel hF, hs', fun ρ' V W' af hv => ?_⟩
  · by_cases e : t = 3
    · subst e
      exact .ptr (e := (0, 0)) (if_pos rfl)
    · rw [show (Env.cons 3 (.ptr 0 0) .nil).find t = AV.bad by rw [find_cons, if_neg (by omega)]; rfl]
      exact .bad _
  · by_cases e : t = 3
    · subst e
      have hx : (X 8).contains 3 = true := by kernel_rfl
      rw [hx] at ht
      cases ht
    · rw [find_cons, if_neg (by omega)]; rfl
  · cases hv
    refine ⟨rfl, hB1.trans ⟨af.os, af.tape, af.output, af.size, fun k hk => af.frame k (by omega) fun b x o e hb hr => ?_⟩⟩
    obtain ⟨_, rfl, _⟩ := die0_has hb
    have hr : some (w.heap.size, (0, 0)) = some (k, e) := hr
    injection hr with hr
    injection hr with hr _
    omega
end Go.Proofs.Ythambbefgbhnkaa.walk
