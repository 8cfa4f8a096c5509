/- What more ice, and what is known better, does to warmth and losses. -/
import Derived.Test.YtndbihaffijhbaaM4
import Derived.Test.YtndbihaffijhbaaM5
import Derived.Test.YtndbihaffijhbaaM3
import Derived.Test.YtndbihaffijhbaaCodes
import Derived.Test.YtndbihaffijhbaaM1
import Derived.Test.YtndbihaffijhbaaAbsPiece
import Derived.Test.YtndbihaffijhbaaProg
import Derived.Tactics
import Derived.Tactics2
import Derived.WalkKit
import Derived.OpenShut
import Derived.Below
import Derived.Lib.Hide
import Derived.KernelRfl
import Derived.Deep.RegionHeld3
import Derived.OwnWalk
import Derived.StillTailTactics
import Derived.Test.YtndbihaffijhbaaAbsTop
import Derived.Test.YtndbihaffijhbaaAbsWalk
import Derived.Test.YtndbihaffijhbaaAwake
import Derived.Test.YtndbihaffijhbaaWalkAll
set_option linter.unusedSimpArgs false
set_option maxHeartbeats 16000000
set_option linter.unusedVariables false
set_option maxRecDepth 10000
namespace Go.Proofs.Ytndbihaffijhbaa.walk
open Go.Abs
/-! ### One end of the ice -/
def fill1 (room hour : Int) : Int → List (Int × Int) → Int
 | i, [] => i
 | i, (h, g) :: r => if h = hour then fill1 room hour (min (i + g) room) r else i
def lev (room : Int) (melt : Int → Int) : Nat → Int → Int → List (Int × Int) → Int
 | 0, hour, i, fs => fill1 room hour i fs
 | k + 1, hour, i, fs => lev room melt k (hour + 1) (max 0 (fill1 room hour i fs - melt hour)) (left hour fs)
theorem fill_fill1 : ∀ (fs : List (Int × Int)) (x : BoxNow), (x.fill fs).i0 = fill1 x.room x.hour x.i0 fs ∧ (x.fill fs).i1 = fill1 x.room x.hour x.i1 fs
 | [], x => ⟨rfl, rfl⟩
 | (h, g) :: r, x => by
  unfold BoxNow.fill fill1
  by_cases e : h = x.hour
  ·rw [if_pos e, if_pos e, if_pos e]
   exact fill_fill1 r (x.put g)
  ·rw [if_neg e, if_neg e, if_neg e]
   exact ⟨rfl, rfl⟩
theorem ices_lev : ∀ (m k : Nat) (x : BoxNow) (fs : List (Int × Int)), k < m → (ices m x fs).getD k (0, 0) = (lev x.room (fun _ => x.m1) k x.hour x.i0 fs, lev x.room (fun _ => x.m0) k x.hour x.i1 fs)
 | 0, k, x, fs, h => absurd h (Nat.not_lt_zero k)
 | m + 1, 0, x, fs, h => by
  obtain ⟨h1, h2⟩ := fill_fill1 fs x
  unfold ices lev
  rw [List.getD_cons_zero, h1, h2]
 | m + 1, k + 1, x, fs, h => by
  obtain ⟨h1, h2⟩ := fill_fill1 fs x
  obtain ⟨⟨q1, q2, q3, _⟩, q8⟩ := x.fill_like fs
  unfold ices
  rw [List.getD_cons_succ, ices_lev m k (x.on fs) (left x.hour fs) (by omega)]
  have e1 : (x.on fs).room = x.room := q1
  have e2 : (x.on fs).m1 = x.m1 := q3
  have e3 : (x.on fs).m0 = x.m0 := q2
  have e4 : (x.on fs).hour = x.hour + 1 := by show (x.fill fs).hour + 1 = _; rw [q8]
  have e5 : (x.on fs).i0 = max 0 (fill1 x.room x.hour x.i0 fs - x.m1) := by show max 0 ((x.fill fs).i0 - (x.fill fs).m1) = _; rw [h1, q3]
  have e6 : (x.on fs).i1 = max 0 (fill1 x.room x.hour x.i1 fs - x.m0) := by show max 0 ((x.fill fs).i1 - (x.fill fs).m0) = _; rw [h2, q2]
  rw [e1, e2, e3, e4, e5, e6]
  rfl
theorem fill1_mono {room room' hour : Int} (hr : room ≤ room') : ∀ (fs : List (Int × Int)) (i i' : Int), i ≤ i' → fill1 room hour i fs ≤ fill1 room' hour i' fs
 | [], i, i', h => h
 | (h0, g) :: r, i, i', h => by
  unfold fill1
  by_cases e : h0 = hour
  ·rw [if_pos e, if_pos e]
   exact fill1_mono hr r _ _ (by omega)
  ·rw [if_neg e, if_neg e]; exact h
/-! ### A cellar's boxes, hour by hour -/
def Cellar.box (c : Cellar) (b : Nat) : Box := c.boxes.getD b noBox
def Cellar.of (c : Cellar) (b : Nat) : List (Int × Int) := (ofBox b c.fills).map fun f => (f.hour, f.grams)
def Cellar.iceLo (c : Cellar) (b k : Nat) : Int := lev (c.box b).room (fun _ => (c.box b).mh) k 0 (c.box b).il (c.of b)
def Cellar.iceHi (c : Cellar) (b k : Nat) : Int := lev (c.box b).room (fun _ => (c.box b).ml) k 0 (c.box b).ih (c.of b)
def Cellar.warm (c : Cellar) (b k : Nat) : Int × Int := (if 0 < c.iceHi b k then (c.box b).cl else (c.box b).wl, if 0 < c.iceLo b k then (c.box b).ch else (c.box b).wh)
theorem warmW_eq (c : Cellar) (b k : Nat) (hb : b < c.boxes.length) (hk : k < 240) : warmW (tabsOf c.boxes c.fills c.boxes.length) k b = c.warm b k := by
 unfold warmW
 rw [Int.toNat_natCast, Int.toNat_natCast]
 unfold tabsOf
 have e0 : ((List.range c.boxes.length).map fun j => tabOf (c.boxes.getD j noBox) c.fills j).getD b [] = tabOf (c.box b) c.fills b := by
  rw [List.getD_eq_getElem?_getD, List.getElem?_map, List.getElem?_range hb]; rfl
 rw [e0]
 unfold tabOf
 have hl : k < (ices 240 (c.box b).start (c.of b)).length := by rw [ices_len]; exact hk
 have e := ices_lev 240 k (c.box b).start (c.of b) hk
 rw [List.getD_eq_getElem?_getD, List.getElem?_eq_getElem hl] at e
 rw [List.getD_eq_getElem?_getD, List.getElem?_map]
 show (((ices 240 (c.box b).start (c.of b))[k]?.map _).getD (0, 0)) = _
 rw [List.getElem?_eq_getElem hl]
 simp only [Option.getD_some] at e
 simp only [Option.map_some, Option.getD_some]
 rw [e]
 rfl
def Cellar.at (c : Cellar) (l : Lot) (k : Nat) : Int × Int := match l.stays.find? (hit k) with
 | some t => c.warm t.box.toNat k
 | none => (c.hl, c.hh)
theorem Cellar.warmAt_eq (c : Cellar) (l : Lot) (okl : l.Ok c.boxes.length) (k : Nat) (hk : k < 240) : warmAt (tabsOf c.boxes c.fills c.boxes.length) l.stays c.hl c.hh k = c.at l k := by
 unfold warmAt aroundOf Cellar.at
 cases hf : l.stays.find? (hit k) with
 | none => rfl
 | some t =>
  have ht := okl.sok t (List.mem_of_find?_eq_some hf)
  obtain ⟨b, hb⟩ : ∃ b : Nat, t.box = b := ⟨t.box.toNat, by have := ht.b0; omega⟩
  have := warmW_eq c b k (by have := ht.b1; omega) hk
  simp only [hb, Int.toNat_natCast]
  exact this
/-! ### Losses -/
theorem lossFrom_up (rs : List Rate) (ro : ∀ i (h : i < rs.length), (rateBefore rs i).above < (rs[i]).above ∧ (rateBefore rs i).loss ≤ (rs[i]).loss) (t t' : Int) (h : t ≤ t') :
  ∀ m j : Nat, j + m = rs.length → (rateBefore rs j).loss ≤ lossFrom t' (rateBefore rs j).loss (rs.drop j) ∧ lossFrom t (rateBefore rs j).loss (rs.drop j) ≤ lossFrom t' (rateBefore rs j).loss (rs.drop j)
 | 0, j, hm => by
  rw [List.drop_of_length_le (by omega)]
  exact ⟨Int.le_refl _, Int.le_refl _⟩
 | m + 1, j, hm => by
  have hj : j < rs.length := by omega
  have ih := lossFrom_up rs ro t t' h m (j + 1) (by omega)
  have hb : rateBefore rs (j + 1) = rs[j] := by simp only [rateBefore, List.getElem?_eq_getElem hj]
  rw [hb] at ih
  rw [List.drop_eq_getElem_cons hj]
  have r1 := (ro j hj).2
  unfold lossFrom
  by_cases e : t' < (rs[j]).above
  ·rw [if_pos e, if_pos (by omega)]
   exact ⟨Int.le_refl _, Int.le_refl _⟩
  ·rw [if_neg e]
   by_cases e2 : t < (rs[j]).above
   ·rw [if_pos e2]
    exact ⟨by omega, by omega⟩
   ·rw [if_neg e2]
    exact ⟨by omega, ih.2⟩
theorem lossFrom_mono (rs : List Rate) (ro : ∀ i (h : i < rs.length), (rateBefore rs i).above < (rs[i]).above ∧ (rateBefore rs i).loss ≤ (rs[i]).loss) (t t' : Int) (h : t ≤ t') : lossFrom t 0 rs ≤ lossFrom t' 0 rs := by
 have := (lossFrom_up rs ro t t' h rs.length 0 (by omega)).2
 rw [List.drop_zero] at this
 exact this
end Go.Proofs.Ytndbihaffijhbaa.walk
set_option maxRecDepth 10000
namespace Go.Proofs.Ytndbihaffijhbaa.walk
open Go.Abs
theorem Cellar.box_eq (c : Cellar) {b : Nat} (h : b < c.boxes.length) : c.box b = c.boxes[b] := by unfold Cellar.box; rw [List.getD_eq_getElem?_getD, List.getElem?_eq_getElem h]; rfl
end Go.Proofs.Ytndbihaffijhbaa.walk
set_option maxRecDepth 10000
namespace Go.Abs
theorem endO_ok {M : Env} {l : List (Nat × Nat)} (s : St) (h : endOk M l = true) : endO l (.ok M s) = .ok M s := by
 show (match endOk M l with | true => ORes.ok M s | false => .fail) = _
 rw [h]
theorem endOk_nil (M : Env) : endOk M [] = true := rfl
theorem endOk_cons {M : Env} {t u : Nat} {r : List (Nat × Nat)} (h : apartA (M.find t) (M.find u) = true) : endOk M ((t, u) :: r) = endOk M r := by
 show (match apartA (M.find t) (M.find u) with | true => endOk M r | false => false) = _
 rw [h]
theorem apart_slice {b c o n k p : Nat} {e : Bool} (h : b ≠ c) : apartA (.slice b o n k e) (.ptr c p) = true := by
 unfold apartA
 simp [blockOf, nbeq_f h]
theorem Own.move {h h' : Heap} {lo lo' n n' w tg : Nat} {rows : List (List AV)} {v : AV} (r : Own h lo n w tg rows v) (hh : ∀ b, lo ≤ b → b < n → h'.get b = h.get b) (hl : lo' ≤ lo) (hn : n ≤ n') : Own h' lo' n' w tg rows v := by
 refine ⟨r.wide, ?_⟩
 rcases r.is with ⟨h1, h2 | ⟨b, h0, h3, h4, h5⟩⟩ | ⟨h1, b, h0, h3, h4, h5⟩
 ·exact .inl ⟨h1, .inl h2⟩
 ·exact .inl ⟨h1, .inr ⟨b, by omega, by omega, h4, by rw [hh b h0 h3]; exact h5⟩⟩
 ·exact .inr ⟨h1, b, by omega, by omega, h4, by rw [hh b h0 h3]; exact h5⟩
theorem Own.none {h h' : Heap} {lo lo' n n' w tg : Nat} {rows : List (List AV)} {v : AV} (r : Own h lo n w tg rows v) (hp : plain v = true) : Own h' lo' n' w tg rows v := by
 rcases r.is with ⟨h1, h2 | ⟨b, _, _, h4, _⟩⟩ | ⟨_, b, _, _, h4, _⟩
 ·subst h1; subst h2; exact ⟨fun x hx => (by cases hx), .inl ⟨rfl, .inl rfl⟩⟩
 ·subst h4; cases hp
 ·subst h4; cases hp
end Go.Abs
namespace Go.Proofs.Ytndbihaffijhbaa.walk
open Go.Abs Go.Proofs.Ytndbihaffijhbaa.code
end Go.Proofs.Ytndbihaffijhbaa.walk
set_option maxRecDepth 10000
namespace Go.Abs
theorem nth_skip : ∀ (a l : List AV) (k : Nat), nth (a ++ l) (a.length + k) = nth l k
 | [], l, k => by rw [List.length_nil, Nat.zero_add, List.nil_append]
 | x :: a, l, k => by rw [List.length_cons, List.cons_append, show a.length + 1 + k = (a.length + k) + 1 by omega, nth_cons, if_neg (by omega)]; exact nth_skip a l k
theorem nth_front : ∀ (R l : List AV) (k : Nat), k < R.length → nth (R ++ l) k = nth R k
 | [], l, k, h => by simp at h
 | x :: R, l, 0, h => rfl
 | x :: R, l, k + 1, h => by rw [List.cons_append, nth_cons, nth_cons, if_neg (by omega), if_neg (by omega), Nat.add_sub_cancel]; exact nth_front R l k (by simpa using h)
end Go.Abs
namespace Go.Proofs.Ytndbihaffijhbaa.walk
open Go.Abs Go.Proofs.Ytndbihaffijhbaa.code
end Go.Proofs.Ytndbihaffijhbaa.walk
set_option maxRecDepth 10000
namespace Go.Proofs.Ytndbihaffijhbaa.walk
open Go.Abs Go.Proofs.Ytndbihaffijhbaa.code
structure TakesQ (N l p q sz n0 k : Nat) (top : Int) (x0 : BoxNow) (J : List (Int × Int) → Heap → Nat → Prop) : Prop where
 turn : ∀ is h h' n, (∀ c, c ≠ p → h'.get c = h.get c) → J is h n → J is h' n
 take : ∀ is (s : St) (x : BoxNow) (v : AV), x.hour < top → (is.length : Int) = x.hour → x.Like x0 → J is s.h s.n → s.h.get p = some (.cells (x.cells v) sz) → s.n + 10000 ≤ far →
  ∃ s', call Try.prog X N (.yield l) [.int .i64 x.hour, .agg [.int .i64 x.i0, .int .i64 x.i1]] s = .val (.bool true) s' ∧ J (is ++ [(x.i0, x.i1)]) s'.h s'.n ∧ (∀ c, c < n0 → c ≠ q → s'.h.get c = s.h.get c) ∧ s.n ≤ s'.n ∧ s'.n ≤ s.n + k ∧ (p ≤ s.m → p ≤ s'.m) ∧ s'.m ≤ s.m ∧ s'.m ≤ l
theorem hoursQ_round (N : Nat) (hN : 2 ≤ N) (cx : Ctx) {l p q z sz n0 k : Nat} {top : Int} {x0 : BoxNow} {J : List (Int × Int) → Heap → Nat → Prop} (hT : TakesQ N l p q sz n0 k top x0 J) (hpq : p ≠ q) (hzq : z ≤ q) (hzn : z ≤ n0) (a b sa sb : Nat) (L : Env) (s : St) (x : BoxNow) (v : AV) (fs is : List (Int × Int))
  (hlt : x.hour < top) (hu : top ≤ 1000) (hk : fs.length ≤ 1000) (h0 : (is.length : Int) = x.hour) (hx : x.Fits) (hm : 0 ≤ x.m0 ∧ x.m0 ≤ 1000000 ∧ 0 ≤ x.m1 ∧ x.m1 ≤ 1000000) (hl : x.Like x0) (hp : p < n0) (ha : a < n0 ∧ a ≠ p) (hb : b < n0 ∧ b ≠ p) (haq : a ≠ q) (hbq : b ≠ q) (hn : n0 ≤ s.n) (hs : s.n + k + 20000 ≤ far)
  (ga : s.h.get a = some (.cells [.ptr p 0] sa)) (gb : s.h.get b = some (.cells [.int .i64 top] sb)) (gp : s.h.get p = some (.cells (x.cells v) sz)) (hr : Rests s.h z p v fs) (hJ : J is s.h s.n) (h0' : L.find 0 = .yield l) (h1 : L.find 1 = .ptr a 0) (h2 : L.find 2 = .ptr b 0) :
  ∃ L1 s1 v1, K72l0 (call Try.prog X N) cx L [] s = .done .norm L1 [] s1 ∧ L1.find 0 = .yield l ∧ L1.find 1 = .ptr a 0 ∧ L1.find 2 = .ptr b 0 ∧ s1.h.get p = some (.cells ((x.on fs).cells v1) sz) ∧ Rests s1.h z p v1 (left x.hour fs) ∧
   J (is ++ [((x.fill fs).i0, (x.fill fs).i1)]) s1.h s1.n ∧ (∀ c, c < n0 → c ≠ p → c ≠ q → s1.h.get c = s.h.get c) ∧ s.n ≤ s1.n ∧ s1.n ≤ s.n + k ∧ (p ≤ s.m → p ≤ s1.m) ∧ s1.m ≤ s.m ∧ s1.m ≤ l := by
 have hf : far = 1000000000 := rfl
 have e0 : decide (x.hour < top) = true := by simpa using hlt
 obtain ⟨s1, v1, e1, g1, r1, t1⟩ := fill_ok N hN x fs v p sz s hk (by omega) (by omega) gp hr hx
 obtain ⟨⟨q1, q2, q3, q4, q5, q6, q7⟩, q8⟩ := x.fill_like fs
 have hx1 := BoxNow.fill_fits hx fs hr.grams
 obtain ⟨⟨l1⟩, _⟩ : x.Like x0 ∧ True := ⟨hl, trivial⟩
 have hl1 : (x.fill fs).Like x0 := ⟨by rw [q1, q2, q3, q4, q5, q6, q7]; exact l1⟩
 obtain ⟨t1a, t1n, t1m⟩ := t1
 obtain ⟨s2, e2, J2, o2, n2, k2, m2, mm2, ml2⟩ := hT.take is s1 (x.fill fs) v1 (by omega) (by omega) hl1 (hT.turn is s.h s1.h s1.n t1a (by rw [t1n]; exact hJ)) g1 (by omega)
 rw [q8] at e2
 generalize hx1e : x.fill fs = x1 at *
 have ga1 : s1.h.get a = some (.cells [.ptr p 0] sa) := by rw [t1a a ha.2]; exact ga
 have gb1 : s1.h.get b = some (.cells [.int .i64 top] sb) := by rw [t1a b hb.2]; exact gb
 have ga2 : s2.h.get a = some (.cells [.ptr p 0] sa) := by rw [o2 a ha.1 haq]; exact ga1
 have g2 : s2.h.get p = some (.cells (x1.cells v1) sz) := by rw [o2 p hp hpq]; exact g1
 have sc1 := r1.sc
 have hm1 : 0 ≤ x1.m0 ∧ x1.m0 ≤ 1000000 ∧ 0 ≤ x1.m1 ∧ x1.m1 ≤ 1000000 := by rw [q2, q3]; exact hm
 have e3 := melt_ok N (by omega) x1.room x1.a1 x1.a2 x1.m0 x1.m1 x1.a5 x1.a6 x1.a7 x1.a8 x1.hour x1.i0 x1.i1 v1 sc1 p sz s2 (by omega) g2 hx1.i0 hx1.i1 ⟨hm1.1, hm1.2.1⟩ ⟨hm1.2.2.1, hm1.2.2.2⟩ (by omega)
 have a1 : ∀ s, aAdd s .i64 x.hour 1 = .val (.int .i64 (x.hour + 1)) s := fun s => aAdd_i64 s _ _ (by omega)
 have gp' := gp
 unfold BoxNow.cells at gp' g1
 rw [q8] at g1 e3
 have ga3 : ∀ o1 o2, ((s2.put p o1).put p o2).h.get a = some (.cells [.ptr p 0] sa) := fun o1 o2 => by rw [get_put_ne' _ _ _ _ ha.2, get_put_ne' _ _ _ _ ha.2]; exact ga2
 simp (disch := first|omega|(with_unfolding_all exact rfl)|(simp only[new_n,put_n,new_m];omega)|(refine put_m_le ?_;simp only[new_m];omega)) only [res72, K72r0, K72r1, K72r2, K72r3, K72r4, K72l0, K72, Abs.W, reduceIte, Nat.reduceEqDiff, Nat.reduceAdd, decide_true, decide_false, kLoop_def, Nat.reduceSub, Env.find_set, h0', h1, h2, ga, gb, gp', e0, e1, ga1, gb1, g1, e2, ga2, e3, ga3, a1, Nat.zero_add, endO_nil, regD_ok]
 refine ⟨_, _, v1, rfl, by simp only [Env.find_set, h0', reduceIte, Nat.reduceEqDiff], by simp only [Env.find_set, h1, reduceIte, Nat.reduceEqDiff], by simp only [Env.find_set, h2, reduceIte, Nat.reduceEqDiff], ?_, ?_, ?_, fun c hc hcp hcq => ?_, ?_, ?_, fun h => ?_, ?_, ?_⟩
 ·rw [get_put_eq _ _ _ _ rfl (by omega)]
  unfold BoxNow.on
  rw [hx1e]
  unfold BoxNow.tick BoxNow.melt BoxNow.cells
  simp only [q8]
 ·refine r1.grow fun c hc hz => ?_
  rw [get_put_ne' _ _ _ _ hc, get_put_ne' _ _ _ _ hc, get_put_ne' _ _ _ _ hc]
  exact o2 c (by omega) (by omega)
 ·exact hT.turn _ s2.h _ _ (fun c hc => by rw [get_put_ne' _ _ _ _ hc, get_put_ne' _ _ _ _ hc, get_put_ne' _ _ _ _ hc]) J2
 ·rw [get_put_ne' _ _ _ _ hcp, get_put_ne' _ _ _ _ hcp, get_put_ne' _ _ _ _ hcp, o2 c hc hcq]
  exact t1a c hcp
 ·simp only [put_n]; omega
 ·simp only [put_n]; omega
 ·simp only [St.put, minN_eq]
  have : p ≤ s1.m := by rcases t1m with ⟨_, h'⟩ | h' <;> omega
  have := m2 this
  omega
 ·simp only [St.put, minN_eq]
  have : s1.m ≤ s.m := by rcases t1m with ⟨_, h'⟩ | h' <;> omega
  omega
 ·simp only [St.put, minN_eq]; omega
theorem hours1Q_ex {N l p q z sz n0 k a b sa sb : Nat} {top : Int} {x : BoxNow} {v : AV} {fs : List (Int × Int)} {s : St} {r : ARes} {J : List (Int × Int) → Heap → Nat → Prop} (m : Nat)
  (hr : call Try.prog X N (.fn 72) [.yield l, .ptr a 0, .ptr b 0] s = r) (hN : 3 ≤ N) (hT : TakesQ (N - 1) l p q sz n0 k top x J) (hpq : p ≠ q) (hzq : z ≤ q) (hzn : z ≤ n0) (haq : a ≠ q) (hbq : b ≠ q) (h0 : x.hour = 0) (hm0 : top = m) (h1m : 1 ≤ m) (hu : top ≤ 240) (hk : fs.length ≤ 1000) (hx : x.Fits) (hm : 0 ≤ x.m0 ∧ x.m0 ≤ 1000000 ∧ 0 ≤ x.m1 ∧ x.m1 ≤ 1000000)
  (hp : p < n0) (ha : a < n0 ∧ a ≠ p) (hb : b < n0 ∧ b ≠ p) (hn : n0 ≤ s.n) (hln : l < s.n) (hs : s.n + k * 240 + k + 30000 ≤ far)
  (ga : s.h.get a = some (.cells [.ptr p 0] sa)) (gb : s.h.get b = some (.cells [.int .i64 top] sb)) (gp : s.h.get p = some (.cells (x.cells v) sz)) (hR : Rests s.h z p v fs) (hJ : J [] s.h s.n) :
  ∃ s', r = .val (.tup []) s' ∧ J (ices m x fs) s'.h s'.n ∧ (∀ c, c < n0 → c ≠ p → c ≠ q → s'.h.get c = s.h.get c) ∧ s.n ≤ s'.n ∧ s'.n ≤ s.n + k * m ∧ (p ≤ s.m → p ≤ s'.m) ∧ s'.m ≤ s.m := by
 obtain ⟨n, rfl⟩ : ∃ n, N = n + 1 := ⟨N - 1, by omega⟩
 have hf : far = 1000000000 := rfl
 rw [Nat.add_sub_cancel] at hT
 obtain ⟨w, t, mm, e, ⟨rfl, q1, q2, q3, q4, q5, q6⟩, hm'⟩ := call_any (n := n) (args := [.yield l, .ptr a 0, .ptr b 0]) (s := s) (Q := fun v h n m' => v = .tup [] ∧ J (ices m x fs) h n ∧ (∀ c, c < n0 → c ≠ p → c ≠ q → h.get c = s.h.get c) ∧ s.n ≤ n ∧ n ≤ s.n + k * m ∧ p ≤ m' ∧ m' ≤ l) Try.func72 rfl (fun u uh un um => by
  rw [← uh] at ga gb gp hR
  have hJ' : J [] u.h u.n := by rw [uh, un]; exact hJ
  rw [enter72]
  simp (disch := first|omega|(with_unfolding_all exact rfl)|(simp only[new_n,put_n,new_m];omega)|(refine put_m_le ?_;simp only[new_m];omega)) only [res72, K72r0, K72r1, K72r2, K72r3, K72r4, K72, Abs.W, reduceIte, Nat.reduceEqDiff, Nat.reduceAdd, decide_true, decide_false, kLoop_def, Nat.reduceSub]
  generalize hl : loopN _ rounds _ _ _ _ _ = r1
  have hkm : ∀ i, i ≤ m → k * i ≤ k * 240 := fun i hi => Nat.mul_le_mul_left k (by omega)
  obtain ⟨e, L1, s1, rfl, rfl, j1, j2, j3, j4, j5, j6⟩ := loop_of hl
   (fun i L t => ∃ x' fs' v' done, L.find 0 = .yield l ∧ L.find 1 = .ptr a 0 ∧ L.find 2 = .ptr b 0 ∧ t.h.get p = some (.cells (x'.cells v') sz) ∧ Rests t.h z p v' fs' ∧ J done t.h t.n ∧ done ++ ices (m - i) x' fs' = ices m x fs ∧ x'.hour = i ∧ x'.Fits ∧ x'.Like x ∧ fs'.length ≤ 1000 ∧ done.length = i ∧
    (∀ c, c < n0 → c ≠ p → c ≠ q → t.h.get c = u.h.get c) ∧ u.n ≤ t.n ∧ t.n ≤ u.n + k * i ∧ p ≤ t.m ∧ (0 < i → t.m ≤ l))
   (fun e L t => e = .exit 0 ∧ J (ices m x fs) t.h t.n ∧ (∀ c, c < n0 → c ≠ p → c ≠ q → t.h.get c = u.h.get c) ∧ u.n ≤ t.n ∧ t.n ≤ u.n + k * m ∧ p ≤ t.m ∧ t.m ≤ l) m (by unfold rounds; omega)
   ⟨x, fs, v, [], by simp only [find_cons, reduceIte, Nat.reduceEqDiff], by simp only [find_cons, reduceIte, Nat.reduceEqDiff], by simp only [find_cons, reduceIte, Nat.reduceEqDiff], gp, hR, hJ', rfl, by rw [h0]; rfl, hx, ⟨rfl, rfl, rfl, rfl, rfl, rfl, rfl⟩, hk, rfl, fun _ _ _ _ => rfl, Nat.le_refl _, Nat.le_add_right _ _, by omega, fun h => absurd h (Nat.lt_irrefl _)⟩
   (fun i L t hi ⟨x', fs', v', done, f0, f1, f2, g, R, JJ, eq, hh, xF, xL, fl, dl, same, nn, nk, pm, lm⟩ => by
    have ga' : t.h.get a = some (.cells [.ptr p 0] sa) := by rw [same a ha.1 ha.2 haq]; exact ga
    have gb' : t.h.get b = some (.cells [.int .i64 top] sb) := by rw [same b hb.1 hb.2 hbq]; exact gb
    have hki := hkm i hi
    obtain ⟨⟨lr, l0, l1, l5, l6, l7, l8⟩⟩ := xL
    by_cases hlt : i < m
    ·obtain ⟨L1, s1, v1, p0, p1, p2, p3, p4, p5, p6, p7, p8, p9, pa, pb, pc⟩ := hoursQ_round n (by omega) ⟨72, none, Try.f72.ntmps, X 72⟩ hT hpq hzq hzn a b sa sb L t x' v' fs' done (by omega) (by omega) fl (by omega) xF (by rw [l0, l1]; exact hm) ⟨lr, l0, l1, l5, l6, l7, l8⟩ hp ha hb haq hbq (by omega) (by omega) ga' gb' g R JJ f0 f1 f2
     obtain ⟨o1, o2, ⟨o3⟩⟩ := BoxNow.on_spec xF R.grams (by rw [l0, l1]; exact hm)
     have hsub : ices (m - i) x' fs' = ((x'.fill fs').i0, (x'.fill fs').i1) :: ices (m - (i + 1)) (x'.on fs') (left x'.hour fs') := by
      rw [show m - i = (m - (i + 1)) + 1 by omega]; rfl
     refine .inl ⟨hlt, L1, s1, p0, x'.on fs', left x'.hour fs', v1, done ++ [((x'.fill fs').i0, (x'.fill fs').i1)], p1, p2, p3, p4, p5, p6, ?_, by rw [o2, hh]; rfl, o1, ?_, Nat.le_trans (left_len _ _) fl, by simp [dl], fun c hc hcp hcq => (p7 c hc hcp hcq).trans (same c hc hcp hcq), by omega, by rw [Nat.mul_succ]; omega, pa pm, fun _ => pc⟩
     ·rw [← eq, hsub, List.append_assoc]; rfl
     ·obtain ⟨o31, o32, o33, o34, o35, o36, o37⟩ := o3
      exact ⟨by rw [o31, lr], by rw [o32, l0], by rw [o33, l1], by rw [o34, l5], by rw [o35, l6], by rw [o36, l7], by rw [o37, l8]⟩
    ·have him : i = m := by omega
     subst him
     have e0 : decide (x'.hour < top) = false := decide_eq_false (by omega)
     rw [Nat.sub_self] at eq
     have eq' : done = ices i x fs := by rw [← eq]; exact (List.append_nil _).symm
     have gp' := g
     unfold BoxNow.cells at gp'
     refine .inr ⟨.exit 0, L.set 9 (.bool false), t, by simp, ?_, rfl, by rw [← eq']; exact JJ, same, nn, nk, pm, lm (by omega)⟩
     simp (disch := first|omega|(with_unfolding_all exact rfl)|(simp only[new_n,put_n,new_m];omega)|(refine put_m_le ?_;simp only[new_m];omega)) only [res72, K72r0, K72r1, K72r2, K72r3, K72r4, K72l0, K72, Abs.W, reduceIte, Nat.reduceEqDiff, Nat.reduceAdd, decide_true, decide_false, kLoop_def, Nat.reduceSub, Env.find_set, f0, f1, f2, ga', gb', gp', e0, Nat.zero_add, endO_nil, regD_ok])
  simp (disch := first|omega|(with_unfolding_all exact rfl)|(simp only[new_n,put_n,new_m];omega)|(refine put_m_le ?_;simp only[new_m];omega)) only [res72, K72r0, K72r1, K72r2, K72r3, K72r4, K72, Abs.W, reduceIte, Nat.reduceEqDiff, Nat.reduceAdd, decide_true, decide_false, kLoop_def, Nat.reduceSub, leave_nil]
  refine ⟨_, _, rfl, ⟨rfl, j1, fun c hc hcp hcq => by rw [j2 c hc hcp hcq, uh], by omega, by omega, j5, j6⟩, fun _ hle => by omega⟩)
 refine ⟨t, hr.symm.trans e, q1, q2, q3, q4, ?_, ?_⟩
 ·rcases hm' with ⟨_, hm'⟩ | ⟨_, hm'⟩ <;> omega
 ·rcases hm' with ⟨_, hm'⟩ | ⟨_, hm'⟩ <;> omega
end Go.Proofs.Ytndbihaffijhbaa.walk
set_option maxRecDepth 10000
namespace Go.Proofs.Ytndbihaffijhbaa.walk
open Go.Abs Go.Proofs.Ytndbihaffijhbaa.code
def lastOf (is : List (Int × Int)) : Int × Int := is.getD (is.length - 1) (0, 0)
theorem lastOf_snoc (is : List (Int × Int)) (x : Int × Int) : lastOf (is ++ [x]) = x := by
 unfold lastOf
 rw [List.length_append, List.length_singleton, Nat.add_sub_cancel, List.getD_eq_getElem?_getD, List.getElem?_append_right (Nat.le_refl _), Nat.sub_self]
 rfl
structure Nows (q z : Nat) (R : ALoop) (is : List (Int × Int)) (h : Heap) (n : Nat) : Prop where
 now : h.get q = some (.cells [.int .i64 (lastOf is).1, .int .i64 (lastOf is).2] (tag 98))
 loop : h.get (z + 1) = some (.loop R)
 dfr : h.get z = some .dfr
 n : z + 2 ≤ n
theorem ice_takes (N : Nat) (p q z sz : Nat) (top : Int) (x0 : BoxNow) (R : ALoop) (L0 : Env) (hR : R = ⟨.ready, none, 16, L0, [32, 33], (rangeAt Try.f16 0).1, (rangeAt Try.f16 0).2, z, Try.f16.ntmps, X 16⟩) (hp : p < q) (hq : q < z)
  (h10 : L0.find 10 = .ptr q 0) : TakesQ (N + 1) (z + 1) p q sz z 10 top x0 (Nows q z R) := by
 have hf : far = 1000000000 := rfl
 refine ⟨fun is h h' n hh ⟨g1, g2, g3, g4⟩ => ⟨by rw [hh _ (by omega)]; exact g1, by rw [hh _ (by omega)]; exact g2, by rw [hh _ (by omega)]; exact g3, g4⟩, ?_⟩
 intro is s x v hlt hil hl ⟨g1, g4, g5, g6⟩ gp hs
 obtain ⟨s1, hs1⟩ : ∃ s1 : St, s1 = (s.new (.cells [.int .i64 0, .int .i64 0] (tag 98))).put s.n (.cells [.int .i64 x.i0, .int .i64 x.i1] (tag 98)) := ⟨_, rfl⟩
 have s1n : s1.n = s.n + 1 := by rw [hs1]; rfl
 have s1g : ∀ c, c ≠ s.n → s1.h.get c = s.h.get c := fun c hc => by rw [hs1, get_put_ne' _ _ _ _ hc, get_new_ne _ _ _ hc]
 have s1m : s1.m = min s.m s.n := by rw [hs1]; simp only [St.put, minN_eq, new_m]
 have s1w : s1.h.get s.n = some (.cells [.int .i64 x.i0, .int .i64 x.i1] (tag 98)) := by rw [hs1]; exact get_put_eq _ _ _ _ rfl (by omega)
 have h1 : K16a0 (call Try.prog X N) ⟨16, some (z + 1), Try.f16.ntmps, X 16⟩ (setParams L0 [32, 33] [.int .i64 x.hour, .agg [.int .i64 x.i0, .int .i64 x.i1]]) [] s = .done .norm ((((L0.set 32 (.int .i64 x.hour)).set 33 (.agg [.int .i64 x.i0, .int .i64 x.i1])).set 12 (.ptr s.n 0))) [] s1 := by
  rw [hs1]
  simp (disch := first|omega|(with_unfolding_all exact rfl)|(simp only[new_n,put_n,new_m];omega)|(refine put_m_le ?_;simp only[new_m];omega)) only [K16a0, K16a0r0, Abs.W, reduceIte, Nat.reduceEqDiff, Nat.reduceAdd, decide_true, decide_false, kLoop_def, Nat.reduceSub, setParams2, Env.find_set, Nat.reduceEqDiff]
 obtain ⟨s2, hs2⟩ : ∃ s2 : St, s2 = s1.put (z + 1) (.loop { R with state := .busy }) := ⟨_, rfl⟩
 have s2n : s2.n = s.n + 1 := by rw [hs2]; exact s1n
 have s2g : ∀ c, c ≠ s.n → c ≠ z + 1 → s2.h.get c = s.h.get c := fun c hc hc3 => by rw [hs2, get_put_ne' _ _ _ _ hc3]; exact s1g c hc
 have s2l : s2.h.get (z + 1) = some (.loop { R with state := .busy }) := by rw [hs2]; exact get_put_eq _ _ _ _ rfl (by omega)
 have s2w : s2.h.get s.n = some (.cells [.int .i64 x.i0, .int .i64 x.i1] (tag 98)) := by rw [hs2, get_put_ne' _ _ _ _ (by omega)]; exact s1w
 have s2m : s2.m = min (min s.m s.n) (z + 1) := by rw [hs2]; simp only [St.put, minN_eq, s1m]
 have g1' := (s2g q (by omega) (by omega)).trans g1
 have h4 : K16b0 (call Try.prog X N) ⟨16, some (z + 1), Try.f16.ntmps, X 16⟩ ((((L0.set 32 (.int .i64 x.hour)).set 33 (.agg [.int .i64 x.i0, .int .i64 x.i1])).set 12 (.ptr s.n 0))) [] s2 = .done .norm ((((L0.set 32 (.int .i64 x.hour)).set 33 (.agg [.int .i64 x.i0, .int .i64 x.i1])).set 12 (.ptr s.n 0))) [] (s2.put q (.cells [.int .i64 x.i0, .int .i64 x.i1] (tag 98))) := by
  simp (disch := first|omega|(with_unfolding_all exact rfl)|(simp only[new_n,put_n,new_m];omega)|(refine put_m_le ?_;simp only[new_m];omega)) only [K16b0, K16b0r0, Abs.W, reduceIte, Nat.reduceEqDiff, Nat.reduceAdd, decide_true, decide_false, kLoop_def, Nat.reduceSub, Env.find_set, h10, g1', s2w, Nat.zero_add]
 have g6' : (s2.put q (.cells [.int .i64 x.i0, .int .i64 x.i1] (tag 98))).h.get (z + 1) = some (.loop { R with state := .busy }) := by
  rw [get_put_ne' _ _ _ _ (by omega)]; exact s2l
 have h4' := h4
 rw [hs2] at h4' g6'
 have hfin := call_round (P := Try.prog) (X := X) (n := N) (l := z + 1) (args := [.int .i64 x.hour, .agg [.int .i64 x.i0, .int .i64 x.i1]]) (r := R) (r1 := R) (r2 := { R with state := .busy }) (s := s) (s1 := s1) (e := .norm) g4 (by rw [hR]; rfl) (by rw [hR]; exact code16a0) (by rw [hR]; exact code16b0) (by rw [hR]; exact h1) (by rw [s1g _ (by omega)]; exact g4) (by rw [hR]) (by rw [hR]; rw [hR] at h4'; exact h4') g6'
 have hRR : ({ ({ R with state := .busy } : ALoop) with state := if goesOn .norm then .ready else .done, pending := jumpOf .norm } : ALoop) = R := by rw [hR]; rfl
 rw [hRR, ← hs2] at hfin
 refine ⟨_, hfin, ⟨?_, get_put_eq _ _ _ _ rfl (by omega), ?_, ?_⟩, fun c hc hcq => ?_, ?_, ?_, fun hpm => ?_, ?_, ?_⟩
 ·rw [get_put_ne' _ _ _ _ (by omega), lastOf_snoc]; exact get_put_eq _ _ _ _ rfl (by omega)
 ·rw [get_put_ne' _ _ _ _ (by omega), get_put_ne' _ _ _ _ (by omega)]; exact (s2g _ (by omega) (by omega)).trans g5
 ·simp only [put_n]; omega
 ·rw [get_put_ne' _ _ _ _ (by omega), get_put_ne' _ _ _ _ hcq]; exact s2g _ (by omega) (by omega)
 ·simp only [put_n]; omega
 ·simp only [put_n]; omega
 ·simp only [St.put, minN_eq, s2m]; omega
 ·simp only [St.put, minN_eq, s2m]; omega
 ·simp only [St.put, minN_eq, s2m]; omega
theorem Ice_ok {N : Nat} {s : St} {v1 v2 v3 : AV} {box hour : Int} (c : Cellar) (ok : c.Ok) (b k : Nat) (hb : b < c.boxes.length) (hk : k < 240) (hbox : box = b) (hhour : hour = k) (hN : 8 ≤ N) (hC : CellarIn s.h s.n c v1 v2 v3) (hs : s.n + 200000 ≤ far) :
  call Try.prog X N (.fn 16) [.agg [.int .i64 c.hl, .int .i64 c.hh, v1, v2, v3], .int .i64 box, .int .i64 hour] s = .val (.tup [.agg [.int .i64 (c.iceLo b k), .int .i64 (c.iceHi b k)], .int .i64 0]) s := by
 obtain ⟨n, rfl⟩ : ∃ n, N = n + 1 := ⟨N - 1, by omega⟩
 subst hbox hhour
 refine call_plain' Try.func16 (fun u uh un um => ?_) rfl
 have hff : far = 1000000000 := rfl
 rw [← uh, ← un] at hC
 have sh : shapeT Try.prog 26 = some (some 2) := by kernel_rfl
 obtain ⟨w, hw⟩ : ∃ w : St, w = (u.new (.cells [.int .i64 c.hl, .int .i64 c.hh, v1, v2, v3] (tag 31))).new (.cells [.int .i64 0, .int .i64 0] (tag 26)) := ⟨_, rfl⟩
 have wn : w.n = u.n + 2 := by rw [hw]; rfl
 have wm : w.m = far := by rw [hw]; exact um
 have wg : ∀ c, c < u.n → w.h.get c = u.h.get c := fun c hc => by rw [hw, get_new_ne _ _ _ (by simp only [new_n]; omega), get_new_ne _ _ _ (by omega)]
 have w0 : w.h.get u.n = some (.cells [.int .i64 c.hl, .int .i64 c.hh, v1, v2, v3] (tag 31)) := by
  rw [hw, get_new_ne _ _ _ (by simp only [new_n]; omega)]; exact get_new_eq _ _ _ rfl (by omega)
 have w2 : w.h.get (u.n + 1) = some (.cells [.int .i64 0, .int .i64 0] (tag 26)) := by rw [hw]; exact get_new_eq _ _ _ rfl (by simp only [new_n]; omega)
 have nn1 : ∀ o, (u.new o).n = u.n + 1 := fun _ => rfl
 have hCw : ∀ m, CellarIn (⟨w.h, w.n, m⟩ : St).h (⟨w.h, w.n, m⟩ : St).n c v1 v2 v3 := fun m => hC.grow wg (by show u.n ≤ w.n; omega)
 have e1 : ∀ m, call Try.prog X n (.fn 40) [.agg [.int .i64 c.hl, .int .i64 c.hh, v1, v2, v3]] ⟨w.h, w.n, m⟩ = .val (.int .i64 0) ⟨w.h, w.n, m⟩ := fun m =>
  check_ok n (by omega) c ok v1 v2 v3 ⟨w.h, w.n, m⟩ (hCw m).at_ (by show w.n + 3000 ≤ far; omega)
 have len1 := hC.at_.b.len
 rw [List.length_map] at len1
 have e2 : ∀ s : St, s.n + 100 ≤ far → call Try.prog X n (.fn 41) [.agg [.int .i64 c.hl, .int .i64 c.hh, v1, v2, v3], .int .i64 (b : Int)] s = .val (.int .i64 0) s := fun s hs => box_ok n (by omega) c.hl c.hh b c.boxes.length v1 v2 v3 s hC.at_.b.ne len1 (by omega) (by omega) hs
 have e3 : ∀ s : St, s.n + 100 ≤ far → call Try.prog X n (.fn 42) [.int .i64 (k : Int)] s = .val (.int .i64 0) s := fun s hs => hour_ok n (by omega) k s (by omega) (by omega) hs
 have a1 : ∀ s, aAdd s .i64 (k : Int) 1 = .val (.int .i64 ((k : Int) + 1)) s := fun s => aAdd_i64 s _ _ (by omega)
 rw [enter16]
 simp (disch := first|omega|(with_unfolding_all exact rfl)|(simp only[new_n,put_n,new_m];omega)|(refine put_m_le ?_;simp only[new_m];omega)) only [res16, K16, K16r0, Abs.W, reduceIte, Nat.reduceEqDiff, Nat.reduceAdd, decide_true, decide_false, kLoop_def, Nat.reduceSub, nn1]
 rw [← hw]
 simp (disch := first|omega|(with_unfolding_all exact rfl)|(simp only[new_n,put_n,new_m];omega)|(refine put_m_le ?_;simp only[new_m];omega)) only [K16r1, K16r2, K16r4, Abs.W, reduceIte, Nat.reduceEqDiff, Nat.reduceAdd, decide_true, decide_false, kLoop_def, Nat.reduceSub, Env.find_set, w0, e1, e2, e3, or_new3, endO_nil, regD_ok, Nat.zero_add]
 obtain ⟨y, hy⟩ : ∃ y : St, y = w.new (.cells [.int .i64 0, .int .i64 0, .int .i64 0] 0) := ⟨_, rfl⟩
 rw [← hy]
 have yn : y.n = w.n + 1 := by rw [hy]; rfl
 have ym : y.m = far := by rw [hy]; exact wm
 have yg : ∀ c, c < w.n → y.h.get c = w.h.get c := fun c hc => by rw [hy, get_new_ne _ _ _ (by omega)]
 have yu : ∀ c, c < u.n → y.h.get c = u.h.get c := fun c hc => (yg c (by omega)).trans (wg c hc)
 have hCy := hC.grow yu (by omega : u.n ≤ y.n)
 generalize hc : call _ _ _ (.fn 43) _ _ = r1
 obtain ⟨v', t1, rfl, st1, kept1⟩ := begin_ex c.boxes c.fills b hb hc (by omega) hCy.at_.b hCy.f ok.f (scal_ne hC.s3) (by omega)
 have t1n := st1.n
 have t1l := st1.le
 have t1m : t1.m = far := st1.m.trans ym
 have t1g := st1.same
 have ksc := kept1.scalar1
 obtain ⟨B, hBe⟩ : ∃ B, B = c.boxes[b] := ⟨_, rfl⟩
 have hBok : B.Ok := by rw [hBe]; exact ok.bok _ (List.getElem_mem hb)
 have hBx : c.box b = B := by unfold Cellar.box; rw [List.getD_eq_getElem?_getD, List.getElem?_eq_getElem hb, hBe]; rfl
 rw [← hBe]
 have hcells : ∀ v, B.start.cells v = [.int .i64 B.start.room, .int .i64 B.start.a1, .int .i64 B.start.a2, .int .i64 B.start.m0, .int .i64 B.start.m1, .int .i64 B.start.a5, .int .i64 B.start.a6, .int .i64 B.start.a7, .int .i64 B.start.a8, .int .i64 B.start.hour, .int .i64 B.start.i0, .int .i64 B.start.i1, v] := fun _ => rfl
 obtain ⟨t2, ht2⟩ : ∃ t2 : St, t2 = ((t1.new (.cells [.int .i64 0, .int .i64 0, .int .i64 0, .int .i64 0, .int .i64 0, .int .i64 0, .int .i64 0, .int .i64 0, .int .i64 0, .int .i64 0, .int .i64 0, .int .i64 0, .nilslice] (tag 100))).put t1.n (.cells (B.start.cells v') (tag 100))).new (.cells [.int .i64 0, .int .i64 0] (tag 98)) := ⟨_, rfl⟩
 have t2n : t2.n = t1.n + 2 := by rw [ht2]; rfl
 have t2m : t2.m = min t1.m t1.n := by rw [ht2]; simp only [St.put, minN_eq, new_m]
 have t2g : ∀ c, c < t1.n → t2.h.get c = t1.h.get c := fun c hc => by rw [ht2, get_new_ne _ _ _ (by simp only [put_n, new_n]; omega), get_put_ne' _ _ _ _ (by omega), get_new_ne _ _ _ (by omega)]
 have t2p : t2.h.get t1.n = some (.cells (B.start.cells v') (tag 100)) := by rw [ht2, get_new_ne _ _ _ (by simp only [put_n, new_n]; omega)]; exact get_put_eq _ _ _ _ rfl (by omega)
 have t2q : t2.h.get (t1.n + 1) = some (.cells [.int .i64 0, .int .i64 0] (tag 98)) := by rw [ht2]; exact get_new_eq _ _ _ (by simp only [put_n, new_n]) (by simp only [put_n, new_n]; omega)
 rw [hcells] at ht2
 have nn2 : ∀ o1 o2, ((t1.new o1).put t1.n o2).n = t1.n + 1 := fun _ _ => rfl
 simp (disch := first|omega|(with_unfolding_all exact rfl)|(simp only[new_n,put_n,new_m];omega)|(refine put_m_le ?_;simp only[new_m];omega)) only [K16r5, K16r6, Abs.W, reduceIte, Nat.reduceEqDiff, Nat.reduceAdd, decide_true, decide_false, kLoop_def, Nat.reduceSub, Env.find_set, hcells, ksc, a1, nn2, Nat.zero_add]
 rw [← ht2]
 generalize hc2 : call _ _ _ (.fn 44) _ _ = r2
 obtain ⟨t3, sa, sb, rfl, st3, t3n, ga, gb⟩ := hours_ex hc2 (by omega) (by omega)
 have t3m : t3.m = t2.m := st3.m
 have t3g : ∀ c, c < t2.n → t3.h.get c = t2.h.get c := st3.same
 simp (disch := first|omega|(with_unfolding_all exact rfl)|(simp only[new_n,put_n,new_m];omega)|(refine put_m_le ?_;simp only[new_m];omega)) only [Abs.W, reduceIte, Nat.reduceEqDiff, Nat.reduceAdd, decide_true, decide_false, kLoop_def, Nat.reduceSub, Env.find_set]
 have t3p := (t3g t1.n (by omega)).trans t2p
 have t3q := (t3g (t1.n + 1) (by omega)).trans t2q
 have hgr : ∀ f ∈ ofBox b c.fills, 0 ≤ f.grams ∧ f.grams ≤ 1000000 := fun f hff' => by
  have := ok.fok f (List.mem_filter.mp hff').1
  obtain ⟨_, _, _, _, z0, z1⟩ := this
  omega
 have kept3 : Kept t3.h (y.n + 3) t1.n (ofBox b c.fills) v' := kept1.mono (fun c h1 h2 => (t3g c (by omega)).trans (t2g c h2)) (Nat.le_refl _)
 obtain ⟨hx, hm0, hm1, hm2, hm3⟩ := Box.start_fits hBok
 generalize hL : Env.cons 0 _ _ = L0
 have f10 : L0.find 10 = .ptr (t1.n + 1) 0 := by rw [← hL]; simp only [find_cons, Env.find_set, reduceIte, Nat.reduceEqDiff]
 have f31 : L0.find 31 = .func 72 [] [.ptr t2.n 0, .ptr (t2.n + 1) 0] := by rw [← hL]; simp only [find_cons, Env.find_set, reduceIte, Nat.reduceEqDiff]
 have f6 : L0.find 6 = .ptr (u.n + 1) 0 := by rw [← hL]; simp only [find_cons, Env.find_set, reduceIte, Nat.reduceEqDiff]
 obtain ⟨R, hRdef⟩ : ∃ R : ALoop, R = ⟨.ready, none, 16, L0, [32, 33], (rangeAt Try.f16 0).1, (rangeAt Try.f16 0).2, t3.n, Try.f16.ntmps, X 16⟩ := ⟨_, rfl⟩
 obtain ⟨n2, rfl⟩ : ∃ n2, n = n2 + 2 := ⟨n - 2, by omega⟩
 have hT := ice_takes n2 t1.n (t1.n + 1) t3.n (tag 100) ((k + 1 : Nat) : Int) B.start R L0 hRdef (by omega) (by omega) f10
 obtain ⟨x2, hx2⟩ : ∃ x2 : St, x2 = (t3.new .dfr).new (.loop R) := ⟨_, rfl⟩
 have x2n : x2.n = t3.n + 2 := by rw [hx2]; rfl
 have x2m : x2.m = t3.m := by rw [hx2]; rfl
 have x2g : ∀ c, c < t3.n → x2.h.get c = t3.h.get c := fun c hc => by rw [hx2, get_new_ne _ _ _ (by simp only [new_n]; omega), get_new_ne _ _ _ (by omega)]
 have x2d : x2.h.get t3.n = some .dfr := by rw [hx2, get_new_ne _ _ _ (by simp only [new_n]; omega)]; exact get_new_eq _ _ _ rfl (by omega)
 have x2l : x2.h.get (t3.n + 1) = some (.loop R) := by rw [hx2]; exact get_new_eq _ _ _ rfl (by simp only [new_n]; omega)
 have G0 : Nows (t1.n + 1) t3.n R [] x2.h x2.n := ⟨(x2g _ (by omega)).trans t3q, x2l, x2d, by omega⟩
 generalize hc4 : call Try.prog X (n2 + 2) (.fn 72) [.yield (t3.n + 1), .ptr t2.n 0, .ptr (t2.n + 1) 0] x2 = r94
 obtain ⟨s2, rfl, G, same, sn, sk, sm, smm⟩ := hours1Q_ex (z := t1.n) (fs := (ofBox b c.fills).map fun f => (f.hour, f.grams)) (k + 1) hc4 (by omega) hT (by omega) (by omega) (by omega) (by omega) (by omega) rfl rfl (by omega) (by omega) (by rw [List.length_map]; unfold ofBox; exact Nat.le_trans (List.length_filter_le _ _) (by have := ok.f; omega)) hx ⟨hm0, hm1, hm2, hm3⟩ (by omega) ⟨by omega, by omega⟩ ⟨by omega, by omega⟩ (by omega) (by omega) (by omega) ((x2g _ (by omega)).trans ga) ((x2g _ (by omega)).trans gb) ((x2g _ (by omega)).trans t3p) ((kept3.rests (.inr (Nat.le_refl _)) (Nat.le_refl _) hgr).grow fun c _ hcz => x2g c (by omega)) G0
 obtain ⟨G1, G4, G5, G6⟩ := G
 have hcall : callV (call Try.prog X (n2 + 2)) [.yield (t3.n + 1)] ((t3.new .dfr).new (.loop ⟨.ready, none, 16, L0, [32, 33], (rangeAt Try.f16 0).1, (rangeAt Try.f16 0).2, t3.n, Try.f16.ntmps, X 16⟩)) ((Arg.tmp 31).ev L0) = .val (.tup []) s2 := by
  rw [ev_tmp, f31, callV_func, ← hRdef, ← hx2]
  exact hc4
 have hrange := range_to_end (ps := [32, 33]) (c := ⟨16, none, Try.f16.ntmps, X 16⟩) rfl hcall G4 (by rw [hRdef]) (by rw [hRdef])
 have hlast : lastOf (ices (k + 1) B.start ((ofBox b c.fills).map fun f => (f.hour, f.grams))) = (c.iceLo b k, c.iceHi b k) := by
  unfold lastOf
  rw [ices_len, Nat.add_sub_cancel, ices_lev (k + 1) k _ _ (by omega)]
  unfold Cellar.iceLo Cellar.iceHi Cellar.of
  rw [hBx]
  rfl
 rw [hlast] at G1
 have g10 : ∀ o, (s2.put (t3.n + 1) o).h.get (t1.n + 1) = some (.cells [.int .i64 (c.iceLo b k), .int .i64 (c.iceHi b k)] (tag 98)) := fun o => by rw [get_put_ne' _ _ _ _ (by omega)]; exact G1
 have g6 : ∀ o, (s2.put (t3.n + 1) o).h.get (u.n + 1) = some (.cells [.int .i64 0, .int .i64 0] (tag 26)) := fun o => by
  rw [get_put_ne' _ _ _ _ (by omega), same _ (by omega) (by omega) (by omega), x2g _ (by omega), t3g _ (by omega), t2g _ (by omega), t1g _ (by omega), yg _ (by omega)]; exact w2
 have gd : ∀ o o2, ((s2.put (t3.n + 1) o).put (u.n + 1) o2).h.get t3.n = some .dfr := fun o o2 => by rw [get_put_ne' _ _ _ _ (by omega), get_put_ne' _ _ _ _ (by omega)]; exact G5
 have km : 10 * (k + 1) ≤ 2400 := by omega
 simp (disch := first|omega|(with_unfolding_all exact rfl)|(simp only[new_n,put_n,new_m];omega)|(refine put_m_le ?_;simp only[new_m];omega)) only [K16r7, Abs.W, reduceIte, Nat.reduceEqDiff, Nat.reduceAdd, decide_true, decide_false, kLoop_def, Nat.reduceSub, hrange, Env.find_set, f10, f6, g10, g6, endsSpan_ok, Nat.zero_add]
 rw [leave_dfr _ _ _ _ _ (gd _ _), res16]
 have f7 : (L0.set 7 (.int .i64 0)).find 7 = .int .i64 0 := by simp only [Env.find_set, reduceIte]
 refine ⟨_, (leave_cell_tmp _ _ _ _ _ sh (v := .agg [.int .i64 (c.iceLo b k), .int .i64 (c.iceHi b k)]) ?_).trans (by rw [f7]), ?_⟩
 ·simp only [Env.find_set, f6, reduceIte, Nat.reduceEqDiff]
  rw [load_ptr, get_kill_ne _ _ _ (by omega), get_put_eq _ _ _ _ rfl (by omega)]
  simp (disch := first|omega|(with_unfolding_all exact rfl)|(simp only[new_n,put_n,new_m];omega)|(refine put_m_le ?_;simp only[new_m];omega)) only [Abs.W, reduceIte, Nat.reduceEqDiff, Nat.reduceAdd, decide_true, decide_false, kLoop_def, Nat.reduceSub]
 ·have := sm (by omega)
  simp only [St.kill, St.put, minN_eq]; omega
theorem Cold_ok {N : Nat} {s : St} {v1 v2 v3 : AV} {box hour : Int} (c : Cellar) (ok : c.Ok) (b k : Nat) (hb : b < c.boxes.length) (hk : k < 240) (hbox : box = b) (hhour : hour = k) (hN : 9 ≤ N) (hC : CellarIn s.h s.n c v1 v2 v3) (hs : s.n + 300000 ≤ far) :
  call Try.prog X N (.fn 17) [.agg [.int .i64 c.hl, .int .i64 c.hh, v1, v2, v3], .int .i64 box, .int .i64 hour] s = .val (.tup [.int .i64 (if 0 < c.iceLo b k then 1 else if 0 < c.iceHi b k then 3 else 2), .int .i64 0]) s := by
 obtain ⟨n, rfl⟩ : ∃ n, N = n + 1 := ⟨N - 1, by omega⟩
 refine call_plain' Try.func17 (fun u uh un um => ?_) rfl
 have hff : far = 1000000000 := rfl
 rw [← uh, ← un] at hC
 obtain ⟨w, hw⟩ : ∃ w : St, w = u.new (.cells [.int .i64 c.hl, .int .i64 c.hh, v1, v2, v3] (tag 31)) := ⟨_, rfl⟩
 have wn : w.n = u.n + 1 := by rw [hw]; rfl
 have wm : w.m = far := by rw [hw]; exact um
 have wg : ∀ c, c < u.n → w.h.get c = u.h.get c := fun c hc => by rw [hw, get_new_ne _ _ _ (by omega)]
 have w0 : w.h.get u.n = some (.cells [.int .i64 c.hl, .int .i64 c.hh, v1, v2, v3] (tag 31)) := by rw [hw]; exact get_new_eq _ _ _ rfl (by omega)
 have e1 := Ice_ok (N := n) (s := w) c ok b k hb hk hbox hhour (by omega) (hC.grow wg (by omega)) (by omega)
 have ex0 : ∀ (a b : AV) (s : St), extA 0 s (.tup [a, b]) = .val a s := fun _ _ _ => rfl
 have ex1 : ∀ (a b : AV) (s : St), extA 1 s (.tup [a, b]) = .val b s := fun _ _ _ => rfl
 rw [enter17]
 simp (disch := first|omega|(with_unfolding_all exact rfl)|(simp only[new_n,put_n,new_m];omega)|(refine put_m_le ?_;simp only[new_m];omega)) only [res17, K17, K17r0, Abs.W, reduceIte, Nat.reduceEqDiff, Nat.reduceAdd, decide_true, decide_false, kLoop_def, Nat.reduceSub]
 rw [← hw]
 simp (disch := first|omega|(with_unfolding_all exact rfl)|(simp only[new_n,put_n,new_m];omega)|(refine put_m_le ?_;simp only[new_m];omega)) only [K17r1, K17r2, K17r4, Abs.W, reduceIte, Nat.reduceEqDiff, Nat.reduceAdd, decide_true, decide_false, kLoop_def, Nat.reduceSub, Env.find_set, w0, e1, ex0, ex1, verdict_ok, Nat.zero_add, leave_tmp_tmp]
 simp only [decide_eq_true_eq]
 exact ⟨_, rfl, by simp only [St.put, minN_eq, wm, new_m]; omega⟩
end Go.Proofs.Ytndbihaffijhbaa.walk
set_option maxRecDepth 10000
namespace Go.Abs
theorem cut_nth {p w : Nat} {c R : List AV} (h : cut p w c = some R) (k : Nat) (hk : k < R.length) : nth c (p + k) = nth R k := by
 obtain ⟨a, t, h1, h2, h3⟩ := cut_some h
 rw [h1, ← h2, List.append_assoc, nth_skip, nth_front _ _ _ hk]
theorem cut_nth0 {p w : Nat} {c R : List AV} (h : cut p w c = some R) (hk : 0 < R.length) : nth c p = nth R 0 := cut_nth h 0 hk
end Go.Abs
namespace Go.Proofs.Ytndbihaffijhbaa.walk
open Go.Abs Go.Proofs.Ytndbihaffijhbaa.code
theorem refIn_ok (N : Nat) (hN : 1 ≤ N) (n lo hi : Int) (s : St) (hs : s.n + 10 ≤ far) : call Try.prog X N (.fn 62) [.int .i64 n, .int .i64 lo, .int .i64 hi] s = .val (.bool (decide (lo ≤ n) && decide (n ≤ hi))) s := by
 obtain ⟨N, rfl⟩ : ∃ n, N = n + 1 := ⟨N - 1, by omega⟩
 refine call_plain' Try.func62 (fun u uh un um => ?_) rfl
 have hff : far = 1000000000 := rfl
 rw [enter62]
 cases h0 : decide (lo ≤ n) with
 | true =>
  simp (disch := first|omega|(with_unfolding_all exact rfl)|(simp only[new_n,put_n,new_m];omega)|(refine put_m_le ?_;simp only[new_m];omega)) only [res62, K62r0, K62r1s7, K62r1s6, K62r1s5, K62r1, K62, Abs.W, reduceIte, Nat.reduceEqDiff, Nat.reduceAdd, decide_true, decide_false, kLoop_def, Nat.reduceSub, h0, Bool.true_and]
  exact ⟨_, rfl, by omega⟩
 | false =>
  simp (disch := first|omega|(with_unfolding_all exact rfl)|(simp only[new_n,put_n,new_m];omega)|(refine put_m_le ?_;simp only[new_m];omega)) only [res62, K62r0, K62r1s7, K62r1s6, K62r1s5, K62r1, K62, Abs.W, reduceIte, Nat.reduceEqDiff, Nat.reduceAdd, decide_true, decide_false, kLoop_def, Nat.reduceSub, h0, Bool.false_and]
  exact ⟨_, rfl, by omega⟩
def inBox (ts : List Stay) (hour : Int) : Int := match ts.find? (hit hour) with
 | some t => t.box
 | none => -1
theorem in_loop (N : Nat) (hN : 1 ≤ N) (cx : Ctx) (ts : List Stay) (v4 a0 a1 : AV) (p2 z : Nat) (hour : Int) (s : St) (hs : s.n + 100 ≤ far) (hR : RowsAt s.h s.n 3 (ts.map Stay.cells) v4) (hb : ∀ t ∈ ts, 0 ≤ t.to ∧ t.to ≤ 1000) (g2 : s.h.get p2 = some (.cells [a0, a1, v4] z)) (hk : ts.length ≤ 100) :
  ∀ (m i fuel : Nat) (L : Env), i + m = ts.length → m < fuel → L.find 1 = .int .i64 hour → L.find 2 = .ptr p2 0 → L.find 5 = .int .i64 i →
   ∃ e L', loopN K38l0 fuel (call Try.prog X N) cx L [] s = .done e L' [] s ∧ (match (ts.drop i).find? (hit hour) with
    | some t => e = .ret ∧ L'.find 4 = .int .i64 t.box
    | none => e = .exit 0)
 | m, i, 0, L, hm, hf, h1, h2, h5 => by omega
 | m, i, fuel + 1, L, hm, hf, h1, h2, h5 => by
  have hff : far = 1000000000 := rfl
  have hlen := hR.len
  rw [List.length_map] at hlen
  have ok4 : ∀ t, okA (.val v4 t) = .val v4 t := fun t => okA_ne hR.ne
  by_cases hi : i < ts.length
  ·obtain ⟨m', rfl⟩ : ∃ m', m = m' + 1 := ⟨m - 1, by omega⟩
   obtain ⟨b, p, c, sz, hbn, hix, hg, hcut⟩ := hR.at_ i (by simpa using hi)
   rw [List.getElem_map] at hcut
   have hbt := hb _ (List.getElem_mem hi)
   rw [List.drop_eq_getElem_cons hi, List.find?_cons]
   have e0 : decide ((i : Int) < (ts.length : Int)) = true := by simp; omega
   have c0 : nth c p = .int .i64 (ts[i]).box := cut_nth0 hcut (show 0 < 3 from by omega)
   have c1 : nth c (p + 1) = .int .i64 (ts[i]).fro := cut_nth hcut 1 (show 1 < 3 from by omega)
   have c2 : nth c (p + 2) = .int .i64 (ts[i]).to := cut_nth hcut 2 (show 2 < 3 from by omega)
   have a1' : ∀ s, aSub s .i64 (ts[i]).to 1 = .val (.int .i64 ((ts[i]).to - 1)) s := fun s => aSub_i64 s _ _ (by omega)
   have a2' : ∀ s, aAdd s .i64 (i : Int) 1 = .val (.int .i64 ((i : Int) + 1)) s := fun s => aAdd_i64 s _ _ (by omega)
   have hw := refIn_ok N hN hour (ts[i]).fro ((ts[i]).to - 1) s (by omega)
   have hh : (decide ((ts[i]).fro ≤ hour) && decide (hour ≤ (ts[i]).to - 1)) = hit hour ts[i] := by
    unfold hit
    congr 1
    simp only [decide_eq_decide]
    omega
   rw [hh] at hw
   rw [loopN_succ]
   cases hb2 : hit hour ts[i] with
   | true =>
    rw [hb2] at hw
    simp (disch := first|omega|(with_unfolding_all exact rfl)|(simp only[new_n,put_n,new_m];omega)|(refine put_m_le ?_;simp only[new_m];omega)) only [res38, K38r0, K38r1, K38r2, K38r3, K38r4, K38r5, K38l0, K38r6, K38, Abs.W, reduceIte, Nat.reduceEqDiff, Nat.reduceAdd, decide_true, decide_false, kLoop_def, Nat.reduceSub, Env.find_set, h1, h2, h5, g2, ok4, hlen, e0, hix, hg, c0, c1, c2, a1', hw, endO_nil, regD_ok, Nat.add_zero, Nat.zero_add]
    exact ⟨_, _, rfl, rfl, by simp only [Env.find_set, reduceIte]⟩
   | false =>
    rw [hb2] at hw
    obtain ⟨e, L2, r1, r2⟩ := in_loop N hN cx ts v4 a0 a1 p2 z hour s hs hR hb g2 hk m' (i + 1) fuel (((L.set 10 (.bool true)).set 27 (.bool false)).set 5 (.int .i64 ((i : Int) + 1))) (by omega) (by omega) (by simp only [Env.find_set, h1, reduceIte, Nat.reduceEqDiff]) (by simp only [Env.find_set, h2, reduceIte, Nat.reduceEqDiff]) (by simp only [Env.find_set, reduceIte]; rfl)
    refine ⟨e, L2, ?_, r2⟩
    rw [← r1]
    simp (disch := first|omega|(with_unfolding_all exact rfl)|(simp only[new_n,put_n,new_m];omega)|(refine put_m_le ?_;simp only[new_m];omega)) only [res38, K38r0, K38r1, K38r2, K38r3, K38r4, K38r5, K38l0, K38r6, K38, Abs.W, reduceIte, Nat.reduceEqDiff, Nat.reduceAdd, decide_true, decide_false, kLoop_def, Nat.reduceSub, Env.find_set, h1, h2, h5, g2, ok4, hlen, e0, hix, hg, c0, c1, c2, a1', a2', hw, endO_nil, regD_ok, Nat.add_zero, Nat.zero_add]
  ·have e0 : decide ((i : Int) < (ts.length : Int)) = false := by simp; omega
   rw [List.drop_eq_nil_of_le (by omega), loopN_succ]
   simp (disch := first|omega|(with_unfolding_all exact rfl)|(simp only[new_n,put_n,new_m];omega)|(refine put_m_le ?_;simp only[new_m];omega)) only [res38, K38r0, K38r1, K38r2, K38r3, K38r4, K38r5, K38l0, K38r6, K38, Abs.W, reduceIte, Nat.reduceEqDiff, Nat.reduceAdd, decide_true, decide_false, kLoop_def, Nat.reduceSub, Env.find_set, h1, h2, h5, g2, ok4, hlen, e0, Nat.add_zero, Nat.zero_add]
   exact ⟨_, _, rfl, rfl⟩
theorem In_ok (N : Nat) (hN : 2 ≤ N) (ts : List Stay) (born keeps hour : Int) (v4 : AV) (s : St) (hs : s.n + 200 ≤ far) (hR : RowsAt s.h s.n 3 (ts.map Stay.cells) v4) (hb : ∀ t ∈ ts, 0 ≤ t.to ∧ t.to ≤ 1000) (hk : ts.length ≤ 100) :
  call Try.prog X N (.fn 38) [.agg [.int .i64 born, .int .i64 keeps, v4], .int .i64 hour] s = .val (.int .i64 (inBox ts hour)) s := by
 obtain ⟨n, rfl⟩ : ∃ n, N = n + 1 := ⟨N - 1, by omega⟩
 refine call_plain' Try.func38 (fun u uh un um => ?_) rfl
 have hff : far = 1000000000 := rfl
 rw [← uh, ← un] at hR
 obtain ⟨w, hw⟩ : ∃ w : St, w = u.new (.cells [.int .i64 born, .int .i64 keeps, v4] (tag 35)) := ⟨_, rfl⟩
 have wn : w.n = u.n + 1 := by rw [hw]; rfl
 have wm : w.m = far := by rw [hw]; exact um
 have wg : ∀ c, c < u.n → w.h.get c = u.h.get c := fun c hc => by rw [hw, get_new_ne _ _ _ (by omega)]
 have w0 : w.h.get u.n = some (.cells [.int .i64 born, .int .i64 keeps, v4] (tag 35)) := by rw [hw]; exact get_new_eq _ _ _ rfl (by omega)
 rw [enter38]
 simp (disch := first|omega|(with_unfolding_all exact rfl)|(simp only[new_n,put_n,new_m];omega)|(refine put_m_le ?_;simp only[new_m];omega)) only [res38, K38r0, K38r1, K38r2, K38r3, K38r4, K38r5, K38r6, K38, Abs.W, reduceIte, Nat.reduceEqDiff, Nat.reduceAdd, decide_true, decide_false, kLoop_def, Nat.reduceSub]
 rw [← hw]
 generalize hLe : Env.cons 0 _ _ = L0
 obtain ⟨e, L', h1, h2⟩ := in_loop n (by omega) ⟨38, none, Try.f38.ntmps, X 38⟩ ts v4 (.int .i64 born) (.int .i64 keeps) u.n _ hour w (by omega) (hR.grow wg (by omega)) hb w0 hk ts.length 0 rounds L0 (by omega) (by unfold rounds; omega) (by rw [← hLe]; simp only [find_cons, reduceIte, Nat.reduceEqDiff]) (by rw [← hLe]; simp only [find_cons, reduceIte, Nat.reduceEqDiff]) (by rw [← hLe]; simp only [find_cons, reduceIte, Nat.reduceEqDiff]; rfl)
 rw [List.drop_zero] at h2
 unfold inBox
 cases hf : ts.find? (hit hour) with
 | some t =>
  rw [hf] at h2
  obtain ⟨rfl, h4⟩ := h2
  simp (disch := first|omega|(with_unfolding_all exact rfl)|(simp only[new_n,put_n,new_m];omega)|(refine put_m_le ?_;simp only[new_m];omega)) only [res38, K38r0, K38r1, K38r2, K38r3, K38r4, K38r5, K38r6, K38, Abs.W, reduceIte, Nat.reduceEqDiff, Nat.reduceAdd, decide_true, decide_false, kLoop_def, Nat.reduceSub, h1, h4]
  exact ⟨_, rfl, by omega⟩
 | none =>
  rw [hf] at h2
  obtain rfl := h2
  simp (disch := first|omega|(with_unfolding_all exact rfl)|(simp only[new_n,put_n,new_m];omega)|(refine put_m_le ?_;simp only[new_m];omega)) only [res38, K38r0, K38r1, K38r2, K38r3, K38r4, K38r5, K38r6, K38, Abs.W, reduceIte, Nat.reduceEqDiff, Nat.reduceAdd, decide_true, decide_false, kLoop_def, Nat.reduceSub, h1, Env.find_set]
  exact ⟨_, rfl, by omega⟩
/-! ### Losses -/
def lossAll (t : Int) : Int → List Rate → Int
 | cur, [] => cur
 | cur, r :: rs => lossAll t (if r.above ≤ t then r.loss else cur) rs
theorem lossAll_eq (rs : List Rate) (ro : ∀ i (h : i < rs.length), (rateBefore rs i).above < (rs[i]).above ∧ (rateBefore rs i).loss ≤ (rs[i]).loss) (t : Int) :
  ∀ (m j : Nat) (cur : Int), j + m = rs.length → lossAll t cur (rs.drop j) = lossFrom t cur (rs.drop j) ∧ ((t < (rateBefore rs j).above) → lossAll t cur (rs.drop j) = cur)
 | 0, j, cur, hm => by
  rw [List.drop_of_length_le (by omega)]
  exact ⟨rfl, fun _ => rfl⟩
 | m + 1, j, cur, hm => by
  have hj : j < rs.length := by omega
  have hb : rateBefore rs (j + 1) = rs[j] := by simp only [rateBefore, List.getElem?_eq_getElem hj]
  have r1 := (ro j hj).1
  rw [List.drop_eq_getElem_cons hj]
  unfold lossAll lossFrom
  by_cases e : t < (rs[j]).above
  ·rw [if_pos e, if_neg (by omega)]
   have ih := (lossAll_eq rs ro t m (j + 1) cur (by omega)).2 (by rw [hb]; exact e)
   exact ⟨ih, fun _ => ih⟩
  ·rw [if_neg e, if_pos (by omega)]
   have ih := lossAll_eq rs ro t m (j + 1) (rs[j]).loss (by omega)
   exact ⟨ih.1, fun h => absurd h (by omega)⟩
theorem lossR_loop (N : Nat) (cx : Ctx) (rs : List Rate) (a0 a1 v1 v2 v3 : AV) (p2 z : Nat) (t : Int) (s : St) (hR : RowsAt s.h s.n 2 (rs.map Rate.cells) v3) (g2 : s.h.get p2 = some (.cells [a0, a1, v1, v2, v3] z)) (hk : rs.length ≤ 100) :
  ∀ (m i fuel : Nat) (cur : Int) (L : Env), i + m = rs.length → m < fuel → L.find 1 = .int .i64 t → L.find 2 = .ptr p2 0 → L.find 6 = .int .i64 i → L.find 5 = .int .i64 cur →
   ∃ L', loopN K39l0 fuel (call Try.prog X N) cx L [] s = .done (.exit 0) L' [] s ∧ L'.find 5 = .int .i64 (lossAll t cur (rs.drop i))
 | m, i, 0, cur, L, hm, hf, h1, h2, h6, h5 => by omega
 | m, i, fuel + 1, cur, L, hm, hf, h1, h2, h6, h5 => by
  have hlen := hR.len
  rw [List.length_map] at hlen
  have ok3 : ∀ t, okA (.val v3 t) = .val v3 t := fun t => okA_ne hR.ne
  by_cases hi : i < rs.length
  ·obtain ⟨m', rfl⟩ : ∃ m', m = m' + 1 := ⟨m - 1, by omega⟩
   obtain ⟨b, p, c, sz, hbn, hix, hg, hcut⟩ := hR.at_ i (by simpa using hi)
   rw [List.getElem_map] at hcut
   rw [List.drop_eq_getElem_cons hi]
   unfold lossAll
   have e0 : decide ((i : Int) < (rs.length : Int)) = true := by simp; omega
   have c0 : nth c p = .int .i64 (rs[i]).above := cut_nth0 hcut (show 0 < 2 from by omega)
   have c1 : nth c (p + 1) = .int .i64 (rs[i]).loss := cut_nth hcut 1 (show 1 < 2 from by omega)
   have a2' : ∀ s, aAdd s .i64 (i : Int) 1 = .val (.int .i64 ((i : Int) + 1)) s := fun s => aAdd_i64 s _ _ (by omega)
   rw [loopN_succ]
   by_cases e1 : (rs[i]).above ≤ t
   ·rw [if_pos e1]
    have e1' : decide ((rs[i]).above ≤ t) = true := decide_eq_true e1
    simp (disch := first|omega|(with_unfolding_all exact rfl)|(simp only[new_n,put_n,new_m];omega)|(refine put_m_le ?_;simp only[new_m];omega)) only [res39, K39r0, K39r1, K39r2, K39r3, K39r4, K39r5, K39r6, K39l0, K39r7, K39, Abs.W, reduceIte, Nat.reduceEqDiff, Nat.reduceAdd, decide_true, decide_false, kLoop_def, Nat.reduceSub, Env.find_set, h1, h2, h5, h6, g2, ok3, hlen, e0, hix, hg, c0, c1, e1', a2', Nat.add_zero, Nat.zero_add]
    exact lossR_loop N cx rs a0 a1 v1 v2 v3 p2 z t s hR g2 hk m' (i + 1) fuel _ _ (by omega) (by omega) (by simp only [Env.find_set, h1, reduceIte, Nat.reduceEqDiff]) (by simp only [Env.find_set, h2, reduceIte, Nat.reduceEqDiff]) (by simp only [Env.find_set, reduceIte]; rfl) (by simp only [Env.find_set, reduceIte, Nat.reduceEqDiff])
   ·rw [if_neg e1]
    have e1' : decide ((rs[i]).above ≤ t) = false := decide_eq_false e1
    simp (disch := first|omega|(with_unfolding_all exact rfl)|(simp only[new_n,put_n,new_m];omega)|(refine put_m_le ?_;simp only[new_m];omega)) only [res39, K39r0, K39r1, K39r2, K39r3, K39r4, K39r5, K39r6, K39l0, K39r7, K39, Abs.W, reduceIte, Nat.reduceEqDiff, Nat.reduceAdd, decide_true, decide_false, kLoop_def, Nat.reduceSub, Env.find_set, h1, h2, h5, h6, g2, ok3, hlen, e0, hix, hg, c0, c1, e1', a2', Nat.add_zero, Nat.zero_add]
    exact lossR_loop N cx rs a0 a1 v1 v2 v3 p2 z t s hR g2 hk m' (i + 1) fuel _ _ (by omega) (by omega) (by simp only [Env.find_set, h1, reduceIte, Nat.reduceEqDiff]) (by simp only [Env.find_set, h2, reduceIte, Nat.reduceEqDiff]) (by simp only [Env.find_set, reduceIte]; rfl) (by simp only [Env.find_set, h5, reduceIte, Nat.reduceEqDiff])
  ·have e0 : decide ((i : Int) < (rs.length : Int)) = false := by simp; omega
   rw [List.drop_eq_nil_of_le (by omega), loopN_succ]
   simp (disch := first|omega|(with_unfolding_all exact rfl)|(simp only[new_n,put_n,new_m];omega)|(refine put_m_le ?_;simp only[new_m];omega)) only [res39, K39r0, K39r1, K39r2, K39r3, K39r4, K39r5, K39r6, K39l0, K39r7, K39, Abs.W, reduceIte, Nat.reduceEqDiff, Nat.reduceAdd, decide_true, decide_false, kLoop_def, Nat.reduceSub, Env.find_set, h1, h2, h5, h6, g2, ok3, hlen, e0, Nat.add_zero, Nat.zero_add]
   exact ⟨_, rfl, by simp only [Env.find_set, h5, reduceIte, Nat.reduceEqDiff]; rfl⟩
theorem LossR_ok (N : Nat) (hN : 1 ≤ N) (c : Cellar) (ok : c.Ok) (v1 v2 v3 : AV) (t : Int) (s : St) (hR : RowsAt s.h s.n 2 (c.rates.map Rate.cells) v3) (hs : s.n + 100 ≤ far) :
  call Try.prog X N (.fn 39) [.agg [.int .i64 c.hl, .int .i64 c.hh, v1, v2, v3], .int .i64 t] s = .val (.int .i64 (lossFrom t 0 c.rates)) s := by
 obtain ⟨n, rfl⟩ : ∃ n, N = n + 1 := ⟨N - 1, by omega⟩
 refine call_plain' Try.func39 (fun u uh un um => ?_) rfl
 have hff : far = 1000000000 := rfl
 rw [← uh, ← un] at hR
 obtain ⟨w, hw⟩ : ∃ w : St, w = u.new (.cells [.int .i64 c.hl, .int .i64 c.hh, v1, v2, v3] (tag 31)) := ⟨_, rfl⟩
 have wn : w.n = u.n + 1 := by rw [hw]; rfl
 have wm : w.m = far := by rw [hw]; exact um
 have wg : ∀ c, c < u.n → w.h.get c = u.h.get c := fun c hc => by rw [hw, get_new_ne _ _ _ (by omega)]
 have w0 : w.h.get u.n = some (.cells [.int .i64 c.hl, .int .i64 c.hh, v1, v2, v3] (tag 31)) := by rw [hw]; exact get_new_eq _ _ _ rfl (by omega)
 have hle := (lossAll_eq c.rates ok.ro t c.rates.length 0 0 (by omega)).1
 rw [List.drop_zero] at hle
 rw [enter39]
 simp (disch := first|omega|(with_unfolding_all exact rfl)|(simp only[new_n,put_n,new_m];omega)|(refine put_m_le ?_;simp only[new_m];omega)) only [res39, K39r0, K39r1, K39r2, K39r3, K39r4, K39r5, K39r6, K39r7, K39, Abs.W, reduceIte, Nat.reduceEqDiff, Nat.reduceAdd, decide_true, decide_false, kLoop_def, Nat.reduceSub]
 rw [← hw]
 generalize hLe : Env.cons 0 _ _ = L0
 obtain ⟨L', h1, h2⟩ := lossR_loop n ⟨39, none, Try.f39.ntmps, X 39⟩ c.rates (.int .i64 c.hl) (.int .i64 c.hh) v1 v2 v3 u.n _ t w (hR.grow wg (by omega)) w0 (by have := ok.r; omega) c.rates.length 0 rounds 0 L0 (by omega) (by unfold rounds; have := ok.r; omega) (by rw [← hLe]; simp only [find_cons, reduceIte, Nat.reduceEqDiff]) (by rw [← hLe]; simp only [find_cons, reduceIte, Nat.reduceEqDiff]) (by rw [← hLe]; simp only [find_cons, reduceIte, Nat.reduceEqDiff]; rfl) (by rw [← hLe]; simp only [find_cons, reduceIte, Nat.reduceEqDiff])
 rw [List.drop_zero, hle] at h2
 simp (disch := first|omega|(with_unfolding_all exact rfl)|(simp only[new_n,put_n,new_m];omega)|(refine put_m_le ?_;simp only[new_m];omega)) only [res39, K39r0, K39r1, K39r2, K39r3, K39r4, K39r5, K39r6, K39r7, K39, Abs.W, reduceIte, Nat.reduceEqDiff, Nat.reduceAdd, decide_true, decide_false, kLoop_def, Nat.reduceSub, Env.find_set, h1, h2]
 exact ⟨_, rfl, by omega⟩
end Go.Proofs.Ytndbihaffijhbaa.walk
set_option maxRecDepth 10000
namespace Go.Proofs.Ytndbihaffijhbaa.walk
open Go.Abs Go.Proofs.Ytndbihaffijhbaa.code
def pour (room box h : Int) : Int → List Fill → Int
 | i, [] => i
 | i, f :: fs => pour room box h (if f.box = box ∧ f.hour = h then min room (i + f.grams) else i) fs
theorem pour_range {room box h : Int} (hr : 0 ≤ room ∧ room ≤ 1000000) : ∀ (fs : List Fill) (i : Int), (∀ f ∈ fs, 0 ≤ f.grams) → 0 ≤ i ∧ i ≤ 1000000 → 0 ≤ pour room box h i fs ∧ pour room box h i fs ≤ 1000000
 | [], i, _, hi => hi
 | f :: fs, i, hf, hi => by
  unfold pour
  have h0 := hf f (List.mem_cons_self ..)
  refine pour_range hr fs _ (fun f hff => hf f (List.mem_cons_of_mem _ hff)) ?_
  split <;> omega
def fallN (room box : Int) (fs : List Fill) (melt : Nat → Int) : Nat → Nat → Int → Int
 | 0, h, i => pour room box h i fs
 | m + 1, h, i => fallN room box fs melt m (h + 1) (max 0 (pour room box h i fs - melt h))
theorem fallin_loop (N : Nat) (cx : Ctx) (fs : List Fill) (v2 a0 a1 v1 v3 : AV) (p5 z : Nat) (room box h : Int) (u : St) (hu : u.n + 100000 ≤ far) (hR : RowsAt u.h u.n 3 (fs.map Fill.cells) v2) (hk : fs.length ≤ 20) (hf : ∀ f ∈ fs, 0 ≤ f.grams ∧ f.grams ≤ 1000000) (hr : 0 ≤ room ∧ room ≤ 1000000)
  (hp : p5 < u.n) (g5 : u.h.get p5 = some (.cells [a0, a1, v1, v2, v3] z)) :
  ∀ (m i fuel k : Nat) (ice : Int) (L : Env) (s : St), i + m = fs.length → m < fuel → k + m ≤ 90000 → Beside u s k → 0 ≤ ice ∧ ice ≤ 1000000 → L.find 1 = .int .i64 box → L.find 2 = .int .i64 ice → L.find 5 = .ptr p5 0 → L.find 11 = .int .i64 room → L.find 12 = .int .i64 h → L.find 13 = .int .i64 i →
   ∃ L' s', loopN K18l0 fuel (call Try.prog X N) cx L [] s = .done (.exit 2) L' [] s' ∧ L'.find 2 = .int .i64 (pour room box h ice (fs.drop i)) ∧ (∀ t, t = 1 ∨ t = 3 ∨ t = 4 ∨ t = 5 ∨ t = 11 ∨ t = 12 → L'.find t = L.find t) ∧ Beside u s' (k + m)
 | m, i, 0, k, ice, L, s, hm, hfu, hkm, hE, hi, l1, l2, l5, l11, l12, l13 => by omega
 | m, i, fuel + 1, k, ice, L, s, hm, hfu, hkm, hE, hi, l1, l2, l5, l11, l12, l13 => by
  have hff : far = 1000000000 := rfl
  have hlen := hR.len
  rw [List.length_map] at hlen
  have ok2 : ∀ t, okA (.val v2 t) = .val v2 t := fun t => okA_ne hR.ne
  have q1 := hE.n
  have q2 := hE.le
  have g5' := (hE.same p5 hp).trans g5
  by_cases hlt : i < fs.length
  ·obtain ⟨m', rfl⟩ : ∃ m', m = m' + 1 := ⟨m - 1, by omega⟩
   obtain ⟨b, p, c, sz, hbn, hix, hg, hcut⟩ := hR.at_ i (by simpa using hlt)
   rw [List.getElem_map] at hcut
   have hgr := hf _ (List.getElem_mem hlt)
   rw [List.drop_eq_getElem_cons hlt]
   unfold pour
   generalize fs[i] = F at hcut hgr ⊢
   unfold Fill.cells at hcut
   have hg' := (hE.same b hbn).trans hg
   have e0 : decide ((i : Int) < (fs.length : Int)) = true := by simp; omega
   have a2' : ∀ s, aAdd s .i64 (i : Int) 1 = .val (.int .i64 ((i : Int) + 1)) s := fun s => aAdd_i64 s _ _ (by omega)
   have a3' : ∀ s, aAdd s .i64 ice F.grams = .val (.int .i64 (ice + F.grams)) s := fun s => aAdd_i64 s _ _ (by omega)
   have step : ∀ ice2 : Int, 0 ≤ ice2 ∧ ice2 ≤ 1000000 → ∀ L2 : Env, L2.find 1 = .int .i64 box → L2.find 2 = .int .i64 ice2 → L2.find 5 = .ptr p5 0 → L2.find 11 = .int .i64 room → L2.find 12 = .int .i64 h → L2.find 13 = .int .i64 ((i : Int) + 1) → (∀ t, t = 1 ∨ t = 3 ∨ t = 4 ∨ t = 5 ∨ t = 11 ∨ t = 12 → L2.find t = L.find t) →
     ∀ o1 o2, ∃ L' s', loopN K18l0 fuel (call Try.prog X N) cx L2 [] ((s.new o1).put s.n o2) = .done (.exit 2) L' [] s' ∧ L'.find 2 = .int .i64 (pour room box h ice2 (fs.drop (i + 1))) ∧ (∀ t, t = 1 ∨ t = 3 ∨ t = 4 ∨ t = 5 ∨ t = 11 ∨ t = 12 → L'.find t = L.find t) ∧ Beside u s' (k + (m' + 1)) := fun ice2 hi2 L2 r1 r2 r5 r11 r12 r13 rk o1 o2 => by
    obtain ⟨L', s', w1, w2, w3, w4⟩ := fallin_loop N cx fs v2 a0 a1 v1 v3 p5 z room box h u hu hR hk hf hr hp g5 m' (i + 1) fuel (k + 1) ice2 L2 ((s.new o1).put s.n o2) (by omega) (by omega) (by omega) ((hE.new _).put _ q1) hi2 r1 r2 r5 r11 r12 (by rw [r13]; rfl)
    exact ⟨L', s', w1, w2, fun t ht => (w3 t ht).trans (rk t ht), w4.mono (by omega)⟩
   rw [loopN_succ]
   by_cases e1 : F.box = box
   ·have e1' : decide (F.box = box) = true := decide_eq_true e1
    by_cases e2 : F.hour = h
    ·have e2' : decide (F.hour = h) = true := decide_eq_true e2
     rw [if_pos ⟨e1, e2⟩]
     simp (disch := first|omega|(with_unfolding_all exact rfl)|(simp only[new_n,put_n,new_m];omega)|(refine put_m_le ?_;simp only[new_m];omega)) only [res18, K18r0, K18r1, K18r2, K18r3, K18r4, K18r5, K18r6s9, K18r6s8, K18r6s7, K18r6s6, K18r6, K18r7, K18r8, K18l0, K18r9, K18r10, K18r11, K18r12, K18l1, K18, Abs.W, reduceIte, Nat.reduceEqDiff, Nat.reduceAdd, decide_true, decide_false, kLoop_def, Nat.reduceSub, Env.find_set, l1, l2, l5, l11, l12, l13, g5', ok2, hlen, e0, hix, hg', hcut, e1', e2', a2', a3', kFold_def, foldA_nil, foldA_cons, minA_i64, Nat.add_zero, Nat.zero_add]
     refine step (min room (ice + F.grams)) (by omega) _ ?_ ?_ ?_ ?_ ?_ ?_ (fun t ht => ?_) _ _
     all_goals first | (rcases ht with rfl | rfl | rfl | rfl | rfl | rfl <;> simp only [Env.find_set, reduceIte, Nat.reduceEqDiff]) | simp only [Env.find_set, l1, l2, l5, l11, l12, l13, reduceIte, Nat.reduceEqDiff]
    ·have e2' : decide (F.hour = h) = false := decide_eq_false e2
     rw [if_neg (fun hh => e2 hh.2)]
     simp (disch := first|omega|(with_unfolding_all exact rfl)|(simp only[new_n,put_n,new_m];omega)|(refine put_m_le ?_;simp only[new_m];omega)) only [res18, K18r0, K18r1, K18r2, K18r3, K18r4, K18r5, K18r6s9, K18r6s8, K18r6s7, K18r6s6, K18r6, K18r7, K18r8, K18l0, K18r9, K18r10, K18r11, K18r12, K18l1, K18, Abs.W, reduceIte, Nat.reduceEqDiff, Nat.reduceAdd, decide_true, decide_false, kLoop_def, Nat.reduceSub, Env.find_set, l1, l2, l5, l11, l12, l13, g5', ok2, hlen, e0, hix, hg', hcut, e1', e2', a2', Nat.add_zero, Nat.zero_add]
     refine step ice hi _ ?_ ?_ ?_ ?_ ?_ ?_ (fun t ht => ?_) _ _
     all_goals first | (rcases ht with rfl | rfl | rfl | rfl | rfl | rfl <;> simp only [Env.find_set, reduceIte, Nat.reduceEqDiff]) | simp only [Env.find_set, l1, l2, l5, l11, l12, l13, reduceIte, Nat.reduceEqDiff]
   ·have e1' : decide (F.box = box) = false := decide_eq_false e1
    rw [if_neg (fun hh => e1 hh.1)]
    simp (disch := first|omega|(with_unfolding_all exact rfl)|(simp only[new_n,put_n,new_m];omega)|(refine put_m_le ?_;simp only[new_m];omega)) only [res18, K18r0, K18r1, K18r2, K18r3, K18r4, K18r5, K18r6s9, K18r6s8, K18r6s7, K18r6s6, K18r6, K18r7, K18r8, K18l0, K18r9, K18r10, K18r11, K18r12, K18l1, K18, Abs.W, reduceIte, Nat.reduceEqDiff, Nat.reduceAdd, decide_true, decide_false, kLoop_def, Nat.reduceSub, Env.find_set, l1, l2, l5, l11, l12, l13, g5', ok2, hlen, e0, hix, hg', hcut, e1', a2', Nat.add_zero, Nat.zero_add]
    refine step ice hi _ ?_ ?_ ?_ ?_ ?_ ?_ (fun t ht => ?_) _ _
    all_goals first | (rcases ht with rfl | rfl | rfl | rfl | rfl | rfl <;> simp only [Env.find_set, reduceIte, Nat.reduceEqDiff]) | simp only [Env.find_set, l1, l2, l5, l11, l12, l13, reduceIte, Nat.reduceEqDiff]
  ·have e0 : decide ((i : Int) < (fs.length : Int)) = false := by simp; omega
   rw [List.drop_eq_nil_of_le (by omega), loopN_succ]
   simp (disch := first|omega|(with_unfolding_all exact rfl)|(simp only[new_n,put_n,new_m];omega)|(refine put_m_le ?_;simp only[new_m];omega)) only [res18, K18r0, K18r1, K18r2, K18r3, K18r4, K18r5, K18r6s9, K18r6s8, K18r6s7, K18r6s6, K18r6, K18r7, K18r8, K18l0, K18r9, K18r10, K18r11, K18r12, K18l1, K18, Abs.W, reduceIte, Nat.reduceEqDiff, Nat.reduceAdd, decide_true, decide_false, kLoop_def, Nat.reduceSub, Env.find_set, l1, l2, l5, l11, l12, l13, g5', ok2, hlen, e0, Nat.add_zero, Nat.zero_add]
   refine ⟨_, _, rfl, by simp only [Env.find_set, l2, reduceIte, Nat.reduceEqDiff]; rfl, fun t ht => ?_, hE.mono (by omega)⟩
   rcases ht with rfl | rfl | rfl | rfl | rfl | rfl <;> simp only [Env.find_set, reduceIte, Nat.reduceEqDiff]
def ints (l : List Int) : List (List AV) := l.map fun x => [.int .i64 x]
theorem ints_at {h : Heap} {n : Nat} {l : List Int} {v : AV} (r : RowsAt h n 1 (ints l) v) {i : Nat} (hi : i < l.length) : ∃ b p c sz, b < n ∧ (∀ s, ixsA 1 s v (.int .i64 i) = .val (.ptr b p) s) ∧ h.get b = some (.cells c sz) ∧ nth c p = .int .i64 l[i] := by
 obtain ⟨b, p, c, sz, hbn, hix, hg, hcut⟩ := r.at_ i (by unfold ints; simpa using hi)
 unfold ints at hcut
 rw [List.getElem_map] at hcut
 exact ⟨b, p, c, sz, hbn, hix, hg, cut_nth0 hcut (show 0 < 1 from by omega)⟩
theorem fallout_loop (N : Nat) (cx : Ctx) (fs : List Fill) (ms : List Int) (d0 : Int) (vm v2 a0 a1 v1 v3 : AV) (p5 z hour : Nat) (room box : Int) (u : St) (hu : u.n + 100000 ≤ far) (hR : RowsAt u.h u.n 3 (fs.map Fill.cells) v2) (hk : fs.length ≤ 20) (hf : ∀ f ∈ fs, 0 ≤ f.grams ∧ f.grams ≤ 1000000) (hr : 0 ≤ room ∧ room ≤ 1000000)
  (hp : p5 < u.n) (g5 : u.h.get p5 = some (.cells [a0, a1, v1, v2, v3] z)) (hM : RowsAt u.h u.n 1 (ints ms) vm) (hml : hour ≤ ms.length) (hmr : ∀ x ∈ ms, 0 ≤ x ∧ x ≤ 1000000) (hh : hour ≤ 1000) :
  ∀ (m h fuel k : Nat) (ice : Int) (L : Env) (s : St), h + m = hour → m < fuel → k + 20 * (m + 1) ≤ 90000 → Beside u s k → 0 ≤ ice ∧ ice ≤ 1000000 → L.find 1 = .int .i64 box → L.find 2 = .int .i64 ice → L.find 3 = vm → L.find 4 = .int .i64 hour → L.find 5 = .ptr p5 0 → L.find 11 = .int .i64 room → L.find 12 = .int .i64 h →
   ∃ L' s', loopN K18l1 fuel (call Try.prog X N) cx L [] s = .done .ret L' [] s' ∧ L'.find 10 = .int .i64 (fallN room box fs (fun h => ms.getD h d0) m h ice) ∧ Beside u s' (k + 20 * (m + 1))
 | m, h, 0, k, ice, L, s, hm, hfu, hkm, hE, hi, l1, l2, l3, l4, l5, l11, l12 => by omega
 | m, h, fuel + 1, k, ice, L, s, hm, hfu, hkm, hE, hi, l1, l2, l3, l4, l5, l11, l12 => by
  have hff : far = 1000000000 := rfl
  obtain ⟨L1, s1, r1, r2, r3, r4⟩ := fallin_loop N cx fs v2 a0 a1 v1 v3 p5 z room box h u hu hR hk hf hr hp g5 fs.length 0 rounds k ice (L.set 13 (.int .i64 0)) s (by omega) (by unfold rounds; omega) (by omega) hE hi (by simp only [Env.find_set, l1, reduceIte, Nat.reduceEqDiff]) (by simp only [Env.find_set, l2, reduceIte, Nat.reduceEqDiff]) (by simp only [Env.find_set, l5, reduceIte, Nat.reduceEqDiff]) (by simp only [Env.find_set, l11, reduceIte, Nat.reduceEqDiff]) (by simp only [Env.find_set, l12, reduceIte, Nat.reduceEqDiff]) (by simp only [Env.find_set, reduceIte]; rfl)
  rw [List.drop_zero] at r2
  have hpr := pour_range (box := box) (h := (h : Int)) hr fs ice (fun f hff => (hf f hff).1) hi
  have f1 : L1.find 1 = .int .i64 box := (r3 1 (by simp)).trans (by simp only [Env.find_set, l1, reduceIte, Nat.reduceEqDiff])
  have f3 : L1.find 3 = vm := (r3 3 (by simp)).trans (by simp only [Env.find_set, l3, reduceIte, Nat.reduceEqDiff])
  have f4 : L1.find 4 = .int .i64 hour := (r3 4 (by simp)).trans (by simp only [Env.find_set, l4, reduceIte, Nat.reduceEqDiff])
  have f5 : L1.find 5 = .ptr p5 0 := (r3 5 (by simp)).trans (by simp only [Env.find_set, l5, reduceIte, Nat.reduceEqDiff])
  have f11 : L1.find 11 = .int .i64 room := (r3 11 (by simp)).trans (by simp only [Env.find_set, l11, reduceIte, Nat.reduceEqDiff])
  have f12 : L1.find 12 = .int .i64 h := (r3 12 (by simp)).trans (by simp only [Env.find_set, l12, reduceIte, Nat.reduceEqDiff])
  have kl : K18l1 = kSeq (kBlock 1 (kSeq (kSeq (kRegion K18r3 [13]) (kBlock 2 (kLoop K18l0))) (kSeq (kSeq (kRegion K18r9 [53]) (kCond (.tmp 53) (kSeq (kRegion K18r10 [10]) kRet) kSkip)) (kRegion K18r11 [2])))) (kRegion K18r12 [12]) := rfl
  rw [loopN_succ, kl]
  cases m with
  | zero =>
   have e0 : decide ((h : Int) = (hour : Int)) = true := decide_eq_true (by omega)
   simp (disch := first|omega|(with_unfolding_all exact rfl)|(simp only[new_n,put_n,new_m];omega)|(refine put_m_le ?_;simp only[new_m];omega)) only [K18r3, K18r9, K18r10, Abs.W, reduceIte, Nat.reduceEqDiff, Nat.reduceAdd, decide_true, decide_false, kLoop_def, Nat.reduceSub, Env.find_set, r1, r2, f1, f3, f4, f5, f11, f12, e0]
   exact ⟨_, _, rfl, by simp only [Env.find_set, reduceIte]; rfl, r4.mono (by omega)⟩
  | succ m =>
   have e0 : decide ((h : Int) = (hour : Int)) = false := decide_eq_false (by omega)
   have hlt : h < ms.length := by omega
   obtain ⟨b, p, c, sz, hbn, hix, hg, hn⟩ := ints_at hM hlt
   have hg' := (r4.same b hbn).trans hg
   have hmm := hmr _ (List.getElem_mem hlt)
   have a1' : ∀ s, aSub s .i64 (pour room box h ice fs) ms[h] = .val (.int .i64 (pour room box h ice fs - ms[h])) s := fun s => aSub_i64 s _ _ (by omega)
   have a2' : ∀ s, aAdd s .i64 (h : Int) 1 = .val (.int .i64 ((h : Int) + 1)) s := fun s => aAdd_i64 s _ _ (by omega)
   have hgd : ms.getD h d0 = ms[h] := by rw [List.getD_eq_getElem?_getD, List.getElem?_eq_getElem hlt]; rfl
   simp (disch := first|omega|(with_unfolding_all exact rfl)|(simp only[new_n,put_n,new_m];omega)|(refine put_m_le ?_;simp only[new_m];omega)) only [K18r3, K18r9, K18r11, K18r12, Abs.W, reduceIte, Nat.reduceEqDiff, Nat.reduceAdd, decide_true, decide_false, kLoop_def, Nat.reduceSub, Env.find_set, r1, r2, f1, f3, f4, f5, f11, f12, e0, hix, hg', hn, a1', a2', kFold_def, foldA_nil, foldA_cons, maxA_i64]
   obtain ⟨L', s', w1, w2, w3⟩ := fallout_loop N cx fs ms d0 vm v2 a0 a1 v1 v3 p5 z hour room box u hu hR hk hf hr hp g5 hM hml hmr hh m (h + 1) fuel (k + fs.length) (max 0 (pour room box h ice fs - ms[h])) (((L1.set 53 (.bool false)).set 2 (.int .i64 (max 0 (pour room box h ice fs - ms[h])))).set 12 (.int .i64 ((h : Int) + 1))) s1 (by omega) (by omega) (by omega) r4 (by omega) (by simp only [Env.find_set, f1, reduceIte, Nat.reduceEqDiff]) (by simp only [Env.find_set, reduceIte, Nat.reduceEqDiff]) (by simp only [Env.find_set, f3, reduceIte, Nat.reduceEqDiff]) (by simp only [Env.find_set, f4, reduceIte, Nat.reduceEqDiff]) (by simp only [Env.find_set, f5, reduceIte, Nat.reduceEqDiff]) (by simp only [Env.find_set, f11, reduceIte, Nat.reduceEqDiff]) (by simp only [Env.find_set, reduceIte]; rfl)
   refine ⟨L', s', w1, ?_, w3.mono (by omega)⟩
   rw [w2]
   show _ = AV.int .i64 (fallN room box fs (fun h => ms.getD h d0) m (h + 1) (max 0 (pour room box h ice fs - ms.getD h d0)))
   rw [hgd]
theorem Fall_ok (N : Nat) (hN : 1 ≤ N) (c : Cellar) (ok : c.Ok) (ms : List Int) (d0 : Int) (v1 v2 v3 vm : AV) (b hour : Nat) (box ice : Int) (s : St) (hC : CellarIn s.h s.n c v1 v2 v3) (hM : RowsAt s.h s.n 1 (ints ms) vm) (hb : b < c.boxes.length) (hbox : box = b) (hi : 0 ≤ ice ∧ ice ≤ 1000000) (hml : hour ≤ ms.length) (hmr : ∀ x ∈ ms, 0 ≤ x ∧ x ≤ 1000000) (hh : hour ≤ 1000) (hs : s.n + 200000 ≤ far) :
  call Try.prog X N (.fn 18) [.agg [.int .i64 c.hl, .int .i64 c.hh, v1, v2, v3], .int .i64 box, .int .i64 ice, vm, .int .i64 hour] s = .val (.int .i64 (fallN (c.box b).room b c.fills (fun h => ms.getD h d0) hour 0 ice)) s := by
 obtain ⟨n, rfl⟩ : ∃ n, N = n + 1 := ⟨N - 1, by omega⟩
 subst hbox
 refine call_plain' Try.func18 (fun u uh un um => ?_) rfl
 have hff : far = 1000000000 := rfl
 rw [← uh, ← un] at hC hM
 obtain ⟨w, hw⟩ : ∃ w : St, w = u.new (.cells [.int .i64 c.hl, .int .i64 c.hh, v1, v2, v3] (tag 31)) := ⟨_, rfl⟩
 have wn : w.n = u.n + 1 := by rw [hw]; rfl
 have wm : w.m = far := by rw [hw]; exact um
 have wg : ∀ c, c < u.n → w.h.get c = u.h.get c := fun c hc => by rw [hw, get_new_ne _ _ _ (by omega)]
 have w0 : w.h.get u.n = some (.cells [.int .i64 c.hl, .int .i64 c.hh, v1, v2, v3] (tag 31)) := by rw [hw]; exact get_new_eq _ _ _ rfl (by omega)
 have hCw := hC.grow wg (by omega : u.n ≤ w.n)
 have hMw := hM.grow wg (by omega : u.n ≤ w.n)
 have ok1 : ∀ t, okA (.val v1 t) = .val v1 t := fun t => okA_ne hC.at_.b.ne
 obtain ⟨bb, p, cc, sz, hbn, hix, hg, hcut⟩ := hCw.at_.b.at_ b (by simpa using hb)
 rw [List.getElem_map] at hcut
 have c0 : nth cc p = .int .i64 (c.box b).room := by rw [c.box_eq hb]; exact cut_nth0 hcut (show 0 < 9 from by omega)
 have okb := ok.bok _ (List.getElem_mem hb)
 rw [← c.box_eq hb] at okb
 rw [enter18]
 simp (disch := first|omega|(with_unfolding_all exact rfl)|(simp only[new_n,put_n,new_m];omega)|(refine put_m_le ?_;simp only[new_m];omega)) only [K18, K18r0, Abs.W, reduceIte, Nat.reduceEqDiff, Nat.reduceAdd, decide_true, decide_false, kLoop_def, Nat.reduceSub]
 rw [← hw]
 simp (disch := first|omega|(with_unfolding_all exact rfl)|(simp only[new_n,put_n,new_m];omega)|(refine put_m_le ?_;simp only[new_m];omega)) only [K18r1, K18r2, Abs.W, reduceIte, Nat.reduceEqDiff, Nat.reduceAdd, decide_true, decide_false, kLoop_def, Nat.reduceSub, Env.find_set, w0, ok1, hix, hg, c0, Nat.zero_add, Nat.add_zero]
 generalize hLe : Env.cons 0 _ _ = L0
 obtain ⟨L', s', h1, h2, h3⟩ := fallout_loop n ⟨18, none, Try.f18.ntmps, X 18⟩ c.fills ms d0 vm v2 (.int .i64 c.hl) (.int .i64 c.hh) v1 v3 u.n _ hour (c.box b).room b w (by omega) hCw.at_.f ok.f (fun f hf => by have := ok.fok f hf; exact ⟨this.g0, by have := this.g1; omega⟩) ⟨okb.r0, by have := okb.r1; omega⟩ (by omega) w0 hMw hml hmr hh
  hour 0 rounds 0 ice L0 w (by omega) (by unfold rounds; omega) (by omega) (Beside.refl w (by omega) wm) hi (by rw [← hLe]; simp only [find_cons, reduceIte, Nat.reduceEqDiff]) (by rw [← hLe]; simp only [find_cons, reduceIte, Nat.reduceEqDiff]) (by rw [← hLe]; simp only [find_cons, reduceIte, Nat.reduceEqDiff]) (by rw [← hLe]; simp only [find_cons, reduceIte, Nat.reduceEqDiff]) (by rw [← hLe]; simp only [find_cons, reduceIte, Nat.reduceEqDiff]) (by rw [← hLe]; simp only [find_cons, reduceIte, Nat.reduceEqDiff]) (by rw [← hLe]; simp only [find_cons, reduceIte, Nat.reduceEqDiff]; rfl)
 have q3 := h3.m
 simp (disch := first|omega|(with_unfolding_all exact rfl)|(simp only[new_n,put_n,new_m];omega)|(refine put_m_le ?_;simp only[new_m];omega)) only [res18, Abs.W, reduceIte, Nat.reduceEqDiff, Nat.reduceAdd, decide_true, decide_false, kLoop_def, Nat.reduceSub, h1, h2]
 exact ⟨_, rfl, by omega⟩
/-! ### .. and the ice of the program -/
theorem fill1_none (room h : Int) : ∀ (fs : List (Int × Int)) (i : Int), (∀ f ∈ fs, h < f.1) → fill1 room h i fs = i
 | [], i, _ => rfl
 | (a, g) :: r, i, hf => by
  unfold fill1
  have := hf (a, g) (List.mem_cons_self ..)
  rw [if_neg (by simp only at this; omega)]
def Ordered : List Fill → Prop
 | [] => True
 | f :: fs => (∀ g ∈ fs, f.hour ≤ g.hour) ∧ Ordered fs
def ofB (box : Int) (fs : List Fill) : List (Int × Int) := (ofBox box fs).map fun f => (f.hour, f.grams)
theorem ofB_cons (box : Int) (f : Fill) (fs : List Fill) : ofB box (f :: fs) = if f.box = box then (f.hour, f.grams) :: ofB box fs else ofB box fs := by
 unfold ofB ofBox
 by_cases e : f.box = box
 ·rw [if_pos e, List.filter_cons_of_pos (by simpa using e)]; rfl
 ·rw [if_neg e, List.filter_cons_of_neg (by simpa using e)]
theorem ofB_mem {box : Int} {fs : List Fill} {x : Int × Int} (h : x ∈ ofB box fs) : ∃ f ∈ fs, f.hour = x.1 := by
 unfold ofB ofBox at h
 obtain ⟨f, hf, rfl⟩ := List.mem_map.mp h
 exact ⟨f, (List.mem_filter.mp hf).1, rfl⟩
def later (h : Int) (fs : List (Int × Int)) : List (Int × Int) := fs.filter fun f => decide (h ≤ f.1)
theorem pour_fill (room box h : Int) : ∀ (fs : List Fill) (i : Int), Ordered fs → pour room box h i fs = fill1 room h i (later h (ofB box fs)) ∧ left h (later h (ofB box fs)) = later (h + 1) (ofB box fs)
 | [], i, _ => ⟨rfl, rfl⟩
 | f :: fs, i, ⟨h1, h2⟩ => by
  have ih := fun i => pour_fill room box h fs i h2
  unfold pour
  rw [ofB_cons]
  by_cases e : f.box = box
  ·rw [if_pos e]
   unfold later
   by_cases e2 : f.hour = h
   ·rw [if_pos ⟨e, e2⟩, List.filter_cons_of_pos (by simp only [decide_eq_true_eq]; omega), List.filter_cons_of_neg (by simp only [decide_eq_true_eq]; omega)]
    unfold fill1 left
    rw [if_pos e2, if_pos e2, Int.min_comm]
    exact ih _
   ·rw [if_neg (fun hh => e2 hh.2)]
    by_cases e3 : h < f.hour
    ·have hall : ∀ x ∈ ofB box fs, h < x.1 := fun x hx => by
      obtain ⟨g, hg, e4⟩ := ofB_mem hx
      have := h1 g hg
      omega
     rw [List.filter_cons_of_pos (by simp only [decide_eq_true_eq]; omega), List.filter_cons_of_pos (by simp only [decide_eq_true_eq]; omega)]
     have hf1 : (ofB box fs).filter (fun f => decide (h ≤ f.1)) = ofB box fs := List.filter_eq_self.mpr fun x hx => by have := hall x hx; simp only [decide_eq_true_eq]; omega
     have hf2 : (ofB box fs).filter (fun f => decide (h + 1 ≤ f.1)) = ofB box fs := List.filter_eq_self.mpr fun x hx => by have := hall x hx; simp only [decide_eq_true_eq]; omega
     rw [hf1, hf2]
     unfold fill1 left
     rw [if_neg e2, if_neg e2]
     refine ⟨?_, rfl⟩
     rw [(ih i).1]
     unfold later
     rw [hf1, fill1_none _ _ _ _ hall]
    ·rw [List.filter_cons_of_neg (by simp only [decide_eq_true_eq]; omega), List.filter_cons_of_neg (by simp only [decide_eq_true_eq]; omega)]
     exact ih i
  ·rw [if_neg e, if_neg (fun hh => e hh.1)]
   exact ih i
theorem fallN_lev (room : Int) (box : Int) (fs : List Fill) (ho : Ordered fs) (melt : Nat → Int) (melt' : Int → Int) (hm : ∀ h : Nat, melt h = melt' h) : ∀ (m h : Nat) (i : Int), fallN room box fs melt m h i = lev room melt' m h i (later h (ofB box fs))
 | 0, h, i => (pour_fill room box h fs i ho).1
 | m + 1, h, i => by
  obtain ⟨h1, h2⟩ := pour_fill room box h fs i ho
  unfold fallN lev
  rw [fallN_lev room box fs ho melt melt' hm m (h + 1), h1, h2, hm h]
  rfl
theorem ordered_of {c : Cellar} (ok : c.Ok) : Ordered c.fills := by
 have key : ∀ m j, j + m = c.fills.length → Ordered (c.fills.drop j) ∧ ∀ g ∈ c.fills.drop j, before c.fills j ≤ g.hour := by
  intro m
  induction m with
  | zero =>
   intro j hj
   rw [List.drop_of_length_le (by omega)]
   exact ⟨trivial, fun g hg => by cases hg⟩
  | succ m ih =>
   intro j hj
   have hlt : j < c.fills.length := by omega
   obtain ⟨h1, h2⟩ := ih (j + 1) (by omega)
   have hb : before c.fills (j + 1) = (c.fills[j]).hour := by simp only [before, List.getElem?_eq_getElem hlt]
   rw [hb] at h2
   have hj' := ok.fo j hlt
   rw [List.drop_eq_getElem_cons hlt]
   refine ⟨⟨h2, h1⟩, fun g hg => ?_⟩
   rcases List.mem_cons.mp hg with e | hg
   ·subst e; exact hj'
   ·have := h2 g hg
    omega
 have := (key c.fills.length 0 (by omega)).1
 rwa [List.drop_zero] at this
theorem fallN_eq (c : Cellar) (ok : c.Ok) (b k : Nat) (i : Int) (melt : Nat → Int) (melt' : Int → Int) (hm : ∀ h : Nat, melt h = melt' h) : fallN (c.box b).room b c.fills melt k 0 i = lev (c.box b).room melt' k 0 i (c.of b) := by
 rw [fallN_lev _ _ _ (ordered_of ok) melt melt' hm]
 have : later ((0 : Nat) : Int) (ofB b c.fills) = c.of b := by
  refine List.filter_eq_self.mpr fun x hx => ?_
  obtain ⟨f, hf, e⟩ := ofB_mem hx
  have := (ok.fok f hf).h0
  simp only [decide_eq_true_eq]
  omega
 rw [this]
 rfl
end Go.Proofs.Ytndbihaffijhbaa.walk
set_option maxRecDepth 10000
namespace Go.Proofs.Ytndbihaffijhbaa.walk
open Go.Abs Go.Proofs.Ytndbihaffijhbaa.code
structure Truth where
 (ice : List Int) (melts cold warm : List (List Int)) (hall : List Int)
structure Tab (h : Heap) (n : Nat) (tab : List (List Int)) (v : AV) : Prop where
 ok : ∀ t, okA (.val v t) = .val v t
 at_ : ∀ i (hi : i < tab.length), ∃ b p c sz vr, b < n ∧ (∀ s, ixsA 1 s v (.int .i64 i) = .val (.ptr b p) s) ∧ h.get b = some (.cells c sz) ∧ nth c p = vr ∧ (∀ t, okA (.val vr t) = .val vr t) ∧ RowsAt h n 1 (ints tab[i]) vr
theorem Tab.grow {h h' : Heap} {n n' : Nat} {tab : List (List Int)} {v : AV} (r : Tab h n tab v) (hh : ∀ b, b < n → h'.get b = h.get b) (hn : n ≤ n') : Tab h' n' tab v :=
 ⟨r.ok, fun i hi => by
  obtain ⟨b, p, c, sz, vr, h1, h2, h3, h4, h5, h6⟩ := r.at_ i hi
  exact ⟨b, p, c, sz, vr, by omega, h2, by rw [hh b h1]; exact h3, h4, h5, h6.grow hh hn⟩⟩
structure TruthAt (h : Heap) (n : Nat) (T : Truth) (va vb vc vd ve : AV) : Prop where
 ice : RowsAt h n 1 (ints T.ice) va
 melts : Tab h n T.melts vb
 cold : Tab h n T.cold vc
 warm : Tab h n T.warm vd
 hall : RowsAt h n 1 (ints T.hall) ve
theorem TruthAt.grow {h h' : Heap} {n n' : Nat} {T : Truth} {va vb vc vd ve : AV} (r : TruthAt h n T va vb vc vd ve) (hh : ∀ b, b < n → h'.get b = h.get b) (hn : n ≤ n') : TruthAt h' n' T va vb vc vd ve :=
 ⟨r.ice.grow hh hn, r.melts.grow hh hn, r.cold.grow hh hn, r.warm.grow hh hn, r.hall.grow hh hn⟩
structure TabIn (tab : List (List Int)) (k hours : Nat) (lo hi : Nat → Int) : Prop where
 len : tab.length = k
 row : ∀ b (h : b < tab.length), (tab[b]).length = hours ∧ ∀ x ∈ tab[b], lo b ≤ x ∧ x ≤ hi b
structure Truth.In (T : Truth) (c : Cellar) (hours : Nat) : Prop where
 il : T.ice.length = c.boxes.length
 ice : ∀ b (h : b < T.ice.length), (c.box b).il ≤ T.ice[b] ∧ T.ice[b] ≤ (c.box b).ih
 melts : TabIn T.melts c.boxes.length hours (fun b => (c.box b).ml) (fun b => (c.box b).mh)
 cold : TabIn T.cold c.boxes.length hours (fun b => (c.box b).cl) (fun b => (c.box b).ch)
 warm : TabIn T.warm c.boxes.length hours (fun b => (c.box b).wl) (fun b => (c.box b).wh)
 hl : T.hall.length = hours
 hall : ∀ x ∈ T.hall, c.hl ≤ x ∧ x ≤ c.hh
def Truth.fall (T : Truth) (c : Cellar) (b k : Nat) : Int := fallN (c.box b).room b c.fills (fun h => (T.melts.getD b []).getD h 0) k 0 (T.ice.getD b 0)
def Truth.around (T : Truth) (c : Cellar) (ts : List Stay) (h : Nat) : Int := match ts.find? (hit h) with
 | none => T.hall.getD h 0
 | some t => if 0 < T.fall c t.box.toNat h then (T.cold.getD t.box.toNat []).getD h 0 else (T.warm.getD t.box.toNat []).getD h 0
def sumN (f : Nat → Int) : Nat → Int
 | 0 => 0
 | m + 1 => sumN f m + f m
theorem sumN_range {f : Nat → Int} (hf : ∀ i, 0 ≤ f i ∧ f i ≤ 1000) : ∀ m : Nat, 0 ≤ sumN f m ∧ sumN f m ≤ 1000 * (m : Int)
 | 0 => ⟨Int.le_refl _, by simp [sumN]⟩
 | m + 1 => by
  have h1 := sumN_range hf m
  have h2 := hf m
  unfold sumN
  omega
def Truth.lost (T : Truth) (c : Cellar) (l : Lot) (m : Nat) : Int := sumN (fun i => lossFrom (T.around c l.stays (l.born + i).toNat) 0 c.rates) m
theorem getD_eq {α : Type} {l : List α} {i : Nat} (d : α) (h : i < l.length) : l.getD i d = l[i] := by rw [List.getD_eq_getElem?_getD, List.getElem?_eq_getElem h]; rfl
theorem fallT_ok (N : Nat) (hN : 1 ≤ N) (c : Cellar) (ok : c.Ok) (T : Truth) (hours : Nat) (tin : T.In c hours) (v1 v2 v3 vm : AV) (b k : Nat) (box ice hour : Int) (s : St) (hC : CellarIn s.h s.n c v1 v2 v3) (hb : b < c.boxes.length) (hM : RowsAt s.h s.n 1 (ints (T.melts[b]'(by rw [tin.melts.len]; exact hb))) vm) (hbox : box = b) (hice : ice = T.ice.getD b 0) (hhour : hour = k) (hk : k ≤ hours) (hh : hours ≤ 1000) (hs : s.n + 200000 ≤ far) :
  call Try.prog X N (.fn 18) [.agg [.int .i64 c.hl, .int .i64 c.hh, v1, v2, v3], .int .i64 box, .int .i64 ice, vm, .int .i64 hour] s = .val (.int .i64 (T.fall c b k)) s := by
 subst hhour
 have hbm : b < T.melts.length := by rw [tin.melts.len]; exact hb
 have hbi : b < T.ice.length := by rw [tin.il]; exact hb
 have okb := ok.bok _ (List.getElem_mem hb)
 rw [← c.box_eq hb] at okb
 have hi := tin.ice b hbi
 rw [getD_eq _ hbi] at hice
 have hr := tin.melts.row b hbm
 have := Fall_ok N hN c ok T.melts[b] 0 v1 v2 v3 vm b k box ice s hC hM hb hbox (by have := okb.i0; have := okb.i2; have := okb.r1; omega) (by omega) (fun x hx => by have := hr.2 x hx; have := okb.m0; have := okb.m2; omega) (by omega) hs
 rw [this]
 unfold Truth.fall
 rw [getD_eq _ hbm, getD_eq _ hbi, hice]
theorem truly_loop (N : Nat) (hN : 2 ≤ N) (cx : Ctx) (c : Cellar) (ok : c.Ok) (l : Lot) (okl : l.Ok c.boxes.length) (T : Truth) (hours : Nat) (tin : T.In c hours) (hh : hours ≤ 1000) (v1 v2 v3 v4 va vb vc vd ve : AV) (p4 p5 p6 z4 z5 z6 m0 : Nat) (s : St) (hs : s.n + 300000 ≤ far)
  (hC : CellarIn s.h s.n c v1 v2 v3) (hR : RowsAt s.h s.n 3 (l.stays.map Stay.cells) v4) (hT : TruthAt s.h s.n T va vb vc vd ve) (hm0 : l.born + m0 ≤ hours)
  (g4 : s.h.get p4 = some (.cells [.int .i64 c.hl, .int .i64 c.hh, v1, v2, v3] z4)) (g5 : s.h.get p5 = some (.cells [.int .i64 l.born, .int .i64 l.keeps, v4] z5)) (g6 : s.h.get p6 = some (.cells [va, vb, vc, vd, ve] z6)) :
  ∀ (m i fuel : Nat) (L : Env), i + m = m0 → m < fuel → L.find 3 = .int .i64 (l.born + m0) → L.find 4 = .ptr p4 0 → L.find 5 = .ptr p5 0 → L.find 6 = .ptr p6 0 → L.find 9 = .int .i64 (T.lost c l i) → L.find 10 = .int .i64 (l.born + i) →
   ∃ L', loopN K14l0 fuel (call Try.prog X N) cx L [] s = .done (.exit 0) L' [] s ∧ L'.find 9 = .int .i64 (T.lost c l m0)
 | m, i, 0, L, hm, hf, l3, l4, l5, l6, l9, l10 => by omega
 | m, i, fuel + 1, L, hm, hf, l3, l4, l5, l6, l9, l10 => by
  have hff : far = 1000000000 := rfl
  have b0 := okl.b0
  by_cases hi : i < m0
  ·obtain ⟨m', rfl⟩ : ∃ m', m = m' + 1 := ⟨m - 1, by omega⟩
   have e0 : decide (l.born + (i : Int) < l.born + (m0 : Int)) = true := decide_eq_true (by omega)
   obtain ⟨h, hh0⟩ : ∃ h : Nat, l.born + (i : Int) = h := ⟨(l.born + i).toNat, by omega⟩
   have hlt : h < hours := by omega
   have eIn := In_ok N hN l.stays l.born l.keeps h v4 s (by omega) hR (fun t ht => by obtain ⟨_, _, x1, x2, x3⟩ := okl.sok t ht; omega) (by have := okl.s; omega)
   have rng : ∀ i, 0 ≤ lossFrom (T.around c l.stays (l.born + (i : Nat)).toNat) 0 c.rates ∧ lossFrom (T.around c l.stays (l.born + (i : Nat)).toNat) 0 c.rates ≤ 1000 := fun i => lossFrom_range _ c.rates 0 ok.rok ⟨Int.le_refl _, by omega⟩
   have hsum := sumN_range rng i
   have hnext : T.lost c l (i + 1) = T.lost c l i + lossFrom (T.around c l.stays h) 0 c.rates := by
    show sumN _ i + lossFrom (T.around c l.stays (l.born + i).toNat) 0 c.rates = _
    rw [hh0, Int.toNat_natCast]
    rfl
   have hsum' : 0 ≤ T.lost c l i ∧ T.lost c l i ≤ 1000 * (i : Int) := hsum
   have hr1 := lossFrom_range (T.around c l.stays h) c.rates 0 ok.rok ⟨Int.le_refl _, by omega⟩
   have a1 : ∀ s, aAdd s .i64 (T.lost c l i) (lossFrom (T.around c l.stays h) 0 c.rates) = .val (.int .i64 (T.lost c l (i + 1))) s := fun s => by rw [hnext]; exact aAdd_i64 s _ _ (by omega)
   have a2 : ∀ s, aAdd s .i64 (h : Int) 1 = .val (.int .i64 (l.born + ((i + 1 : Nat) : Int))) s := fun s => by rw [aAdd_i64 s _ _ (by omega)]; congr 2; omega
   have eL := LossR_ok N (by omega) c ok v1 v2 v3 (T.around c l.stays h) s hC.at_.r (by omega)
   obtain ⟨bh, ph, ch, szh, hbh, hxh, hgh, hnh⟩ := ints_at hT.hall (i := h) (by rw [tin.hl]; exact hlt)
   have hallh : T.hall.getD h 0 = T.hall[h]'(by rw [tin.hl]; exact hlt) := getD_eq _ _
   rw [← hallh] at hnh
   have oke : ∀ t, okA (.val ve t) = .val ve t := fun t => okA_ne hT.hall.ne
   have oka : ∀ t, okA (.val va t) = .val va t := fun t => okA_ne hT.ice.ne
   have okb := hT.melts.ok
   have okc := hT.cold.ok
   have okd := hT.warm.ok
   rw [hh0] at e0 l10
   have go : ∀ L2 : Env, L2.find 3 = .int .i64 (l.born + m0) → L2.find 4 = .ptr p4 0 → L2.find 5 = .ptr p5 0 → L2.find 6 = .ptr p6 0 → L2.find 9 = .int .i64 (T.lost c l (i + 1)) → L2.find 10 = .int .i64 (l.born + ((i + 1 : Nat) : Int)) →
     ∃ L', loopN K14l0 fuel (call Try.prog X N) cx L2 [] s = .done (.exit 0) L' [] s ∧ L'.find 9 = .int .i64 (T.lost c l m0) := fun L2 => truly_loop N hN cx c ok l okl T hours tin hh v1 v2 v3 v4 va vb vc vd ve p4 p5 p6 z4 z5 z6 m0 s hs hC hR hT hm0 g4 g5 g6 m' (i + 1) fuel L2 (by omega) (by omega)
   unfold inBox at eIn
   rw [loopN_succ]
   cases hfnd : l.stays.find? (hit h) with
   | none =>
    have hw : T.around c l.stays h = T.hall.getD h 0 := by unfold Truth.around; rw [hfnd]
    rw [hfnd] at eIn
    rw [hw] at a1 eL
    have d1 : decide ((0 : Int) ≤ -1) = false := rfl
    simp (disch := first|omega|(with_unfolding_all exact rfl)|(simp only[new_n,put_n,new_m];omega)|(refine put_m_le ?_;simp only[new_m];omega)) only [res14, K14r0, K14r1, K14r2, K14r3, K14r4, K14r5, K14r6, K14r7, K14r8, K14r9, K14r10, K14r11, K14l0, K14r12, K14, Abs.W, reduceIte, Nat.reduceEqDiff, Nat.reduceAdd, decide_true, decide_false, kLoop_def, Nat.reduceSub, Env.find_set, l3, l4, l5, l6, l9, l10, e0, g4, g5, g6, eIn, oke, hxh, hgh, hnh, d1, eL, a1, a2, Nat.zero_add]
    refine go _ ?_ ?_ ?_ ?_ ?_ ?_ <;> simp only [Env.find_set, l3, l4, l5, l6, reduceIte, Nat.reduceEqDiff]
   | some t =>
    have ht := okl.sok t (List.mem_of_find?_eq_some hfnd)
    obtain ⟨b, hb⟩ : ∃ b : Nat, t.box = b := ⟨t.box.toNat, by have := ht.b0; omega⟩
    have hblt : b < c.boxes.length := by have := ht.b1; omega
    rw [hfnd] at eIn
    simp only at eIn
    rw [hb] at eIn
    have d1 : decide ((0 : Int) ≤ (b : Int)) = true := decide_eq_true (by omega)
    have hbi : b < T.ice.length := by rw [tin.il]; exact hblt
    have hbm : b < T.melts.length := by rw [tin.melts.len]; exact hblt
    have hbc : b < T.cold.length := by rw [tin.cold.len]; exact hblt
    have hbw : b < T.warm.length := by rw [tin.warm.len]; exact hblt
    obtain ⟨bi, pi, ci, szi, hi1, hi2, hi3, hi4⟩ := ints_at hT.ice hbi
    obtain ⟨bm, pm, cm, szm, vrm, hm1, hm2, hm3, hm4, hm5, hm6⟩ := hT.melts.at_ b hbm
    obtain ⟨bc, pc, cc, szc, vrc, hc1, hc2, hc3, hc4, hc5, hc6⟩ := hT.cold.at_ b hbc
    obtain ⟨bw, pw, cw, szw, vrw, hw1, hw2, hw3, hw4, hw5, hw6⟩ := hT.warm.at_ b hbw
    have lc : h < (T.cold[b]).length := by rw [(tin.cold.row b hbc).1]; exact hlt
    have lw : h < (T.warm[b]).length := by rw [(tin.warm.row b hbw).1]; exact hlt
    obtain ⟨bc2, pc2, cc2, szc2, hc21, hc22, hc23, hc24⟩ := ints_at hc6 lc
    obtain ⟨bw2, pw2, cw2, szw2, hw21, hw22, hw23, hw24⟩ := ints_at hw6 lw
    have eF := fallT_ok N (by omega) c ok T hours tin v1 v2 v3 vrm b h b (T.ice[b]) h s hC hblt hm6 rfl (getD_eq _ hbi).symm rfl (by omega) hh (by omega)
    have hcold : (T.cold.getD b []).getD h 0 = (T.cold[b])[h] := by rw [getD_eq [] hbc, getD_eq 0 lc]
    have hwarm : (T.warm.getD b []).getD h 0 = (T.warm[b])[h] := by rw [getD_eq [] hbw, getD_eq 0 lw]
    by_cases hf0 : 0 < T.fall c b h
    ·have hw : T.around c l.stays h = (T.cold[b])[h] := by
      unfold Truth.around; rw [hfnd]; simp only [hb, Int.toNat_natCast]; rw [if_pos hf0, hcold]
     rw [hw] at a1 eL
     have d2 : decide ((0 : Int) < T.fall c b h) = true := decide_eq_true hf0
     simp (disch := first|omega|(with_unfolding_all exact rfl)|(simp only[new_n,put_n,new_m];omega)|(refine put_m_le ?_;simp only[new_m];omega)) only [res14, K14r0, K14r1, K14r2, K14r3, K14r4, K14r5, K14r6, K14r7, K14r8, K14r9, K14r10, K14r11, K14l0, K14r12, K14, Abs.W, reduceIte, Nat.reduceEqDiff, Nat.reduceAdd, decide_true, decide_false, kLoop_def, Nat.reduceSub, Env.find_set, l3, l4, l5, l6, l9, l10, e0, g4, g5, g6, eIn, oke, hxh, hgh, hnh, d1, oka, okb, okc, okd, hi2, hi3, hi4, hm2, hm3, hm4, hm5, hc2, hc3, hc4, hc5, hw2, hw3, hw4, hw5, hc22, hc23, hc24, hw22, hw23, hw24, eF, d2, eL, a1, a2, endO_nil, regD_ok, Nat.zero_add]
     refine go _ ?_ ?_ ?_ ?_ ?_ ?_ <;> simp only [Env.find_set, l3, l4, l5, l6, reduceIte, Nat.reduceEqDiff]
    ·have hw : T.around c l.stays h = (T.warm[b])[h] := by
      unfold Truth.around; rw [hfnd]; simp only [hb, Int.toNat_natCast]; rw [if_neg hf0, hwarm]
     rw [hw] at a1 eL
     have d2 : decide ((0 : Int) < T.fall c b h) = false := decide_eq_false hf0
     simp (disch := first|omega|(with_unfolding_all exact rfl)|(simp only[new_n,put_n,new_m];omega)|(refine put_m_le ?_;simp only[new_m];omega)) only [res14, K14r0, K14r1, K14r2, K14r3, K14r4, K14r5, K14r6, K14r7, K14r8, K14r9, K14r10, K14r11, K14l0, K14r12, K14, Abs.W, reduceIte, Nat.reduceEqDiff, Nat.reduceAdd, decide_true, decide_false, kLoop_def, Nat.reduceSub, Env.find_set, l3, l4, l5, l6, l9, l10, e0, g4, g5, g6, eIn, oke, hxh, hgh, hnh, d1, oka, okb, okc, okd, hi2, hi3, hi4, hm2, hm3, hm4, hm5, hw2, hw3, hw4, hw5, hw22, hw23, hw24, eF, d2, eL, a1, a2, endO_nil, regD_ok, Nat.zero_add]
     refine go _ ?_ ?_ ?_ ?_ ?_ ?_ <;> simp only [Env.find_set, l3, l4, l5, l6, reduceIte, Nat.reduceEqDiff]
  ·obtain rfl : i = m0 := by omega
   have e0 : decide (l.born + (i : Int) < l.born + (i : Int)) = false := by simp
   rw [loopN_succ]
   simp (disch := first|omega|(with_unfolding_all exact rfl)|(simp only[new_n,put_n,new_m];omega)|(refine put_m_le ?_;simp only[new_m];omega)) only [res14, K14r0, K14r1, K14r2, K14r3, K14r4, K14r5, K14r6, K14r7, K14r8, K14r9, K14r10, K14r11, K14l0, K14r12, K14, Abs.W, reduceIte, Nat.reduceEqDiff, Nat.reduceAdd, decide_true, decide_false, kLoop_def, Nat.reduceSub, Env.find_set, l3, l4, l5, l6, l9, l10, e0]
   exact ⟨_, rfl, by simp only [Env.find_set, l9, reduceIte, Nat.reduceEqDiff]⟩
theorem truly_ok (N : Nat) (hN : 3 ≤ N) (c : Cellar) (ok : c.Ok) (l : Lot) (okl : l.Ok c.boxes.length) (T : Truth) (hours : Nat) (tin : T.In c hours) (hh : hours ≤ 1000) (v1 v2 v3 v4 va vb vc vd ve : AV) (m0 : Nat) (hour : Int) (s : St) (hs : s.n + 400000 ≤ far)
  (hC : CellarIn s.h s.n c v1 v2 v3) (hR : RowsAt s.h s.n 3 (l.stays.map Stay.cells) v4) (hT : TruthAt s.h s.n T va vb vc vd ve) (hhour : hour = l.born + m0) (hm0 : l.born + m0 ≤ hours) :
  call Try.prog X N (.fn 14) [.agg [.int .i64 c.hl, .int .i64 c.hh, v1, v2, v3], .agg [.int .i64 l.born, .int .i64 l.keeps, v4], .agg [va, vb, vc, vd, ve], .int .i64 hour] s = .val (.int .i64 (T.lost c l m0)) s := by
 obtain ⟨n, rfl⟩ : ∃ n, N = n + 1 := ⟨N - 1, by omega⟩
 subst hhour
 refine call_plain' Try.func14 (fun u uh un um => ?_) rfl
 have hff : far = 1000000000 := rfl
 rw [← uh, ← un] at hC hR hT
 obtain ⟨w, hw⟩ : ∃ w : St, w = ((u.new (.cells [.int .i64 c.hl, .int .i64 c.hh, v1, v2, v3] (tag 31))).new (.cells [.int .i64 l.born, .int .i64 l.keeps, v4] (tag 35))).new (.cells [va, vb, vc, vd, ve] (tag 46)) := ⟨_, rfl⟩
 have wn : w.n = u.n + 3 := by rw [hw]; rfl
 have wm : w.m = far := by rw [hw]; exact um
 have wg : ∀ c, c < u.n → w.h.get c = u.h.get c := fun c hc => by rw [hw, get_new_ne _ _ _ (by simp only [new_n]; omega), get_new_ne _ _ _ (by simp only [new_n]; omega), get_new_ne _ _ _ (by omega)]
 have w0 : w.h.get u.n = some (.cells [.int .i64 c.hl, .int .i64 c.hh, v1, v2, v3] (tag 31)) := by
  rw [hw, get_new_ne _ _ _ (by simp only [new_n]; omega), get_new_ne _ _ _ (by simp only [new_n]; omega)]; exact get_new_eq _ _ _ rfl (by omega)
 have w1 : w.h.get (u.n + 1) = some (.cells [.int .i64 l.born, .int .i64 l.keeps, v4] (tag 35)) := by
  rw [hw, get_new_ne _ _ _ (by simp only [new_n]; omega)]; exact get_new_eq _ _ _ rfl (by simp only [new_n]; omega)
 have w2 : w.h.get (u.n + 2) = some (.cells [va, vb, vc, vd, ve] (tag 46)) := by rw [hw]; exact get_new_eq _ _ _ rfl (by simp only [new_n]; omega)
 have nn1 : ∀ o, (u.new o).n = u.n + 1 := fun _ => rfl
 have nn2 : ∀ o1 o2, ((u.new o1).new o2).n = u.n + 2 := fun _ _ => rfl
 rw [enter14]
 simp (disch := first|omega|(with_unfolding_all exact rfl)|(simp only[new_n,put_n,new_m];omega)|(refine put_m_le ?_;simp only[new_m];omega)) only [K14, K14r0, Abs.W, reduceIte, Nat.reduceEqDiff, Nat.reduceAdd, decide_true, decide_false, kLoop_def, Nat.reduceSub, nn1, nn2]
 rw [← hw]
 simp (disch := first|omega|(with_unfolding_all exact rfl)|(simp only[new_n,put_n,new_m];omega)|(refine put_m_le ?_;simp only[new_m];omega)) only [K14r1, K14r2, Abs.W, reduceIte, Nat.reduceEqDiff, Nat.reduceAdd, decide_true, decide_false, kLoop_def, Nat.reduceSub, Env.find_set, w1, Nat.zero_add]
 generalize hLe : Env.cons 0 _ _ = L0
 obtain ⟨L', h1, h2⟩ := truly_loop n (by omega) ⟨14, none, Try.f14.ntmps, X 14⟩ c ok l okl T hours tin hh v1 v2 v3 v4 va vb vc vd ve u.n (u.n + 1) (u.n + 2) _ _ _ m0 w (by omega) (hC.grow wg (by omega)) (hR.grow wg (by omega)) (hT.grow wg (by omega)) hm0 w0 w1 w2 m0 0 rounds L0 (by omega) (by unfold rounds; have := okl.b0; omega) (by rw [← hLe]; simp only [find_cons, reduceIte, Nat.reduceEqDiff]) (by rw [← hLe]; simp only [find_cons, reduceIte, Nat.reduceEqDiff]) (by rw [← hLe]; simp only [find_cons, reduceIte, Nat.reduceEqDiff]) (by rw [← hLe]; simp only [find_cons, reduceIte, Nat.reduceEqDiff]) (by rw [← hLe]; simp only [find_cons, reduceIte, Nat.reduceEqDiff]; rfl) (by rw [← hLe]; simp only [find_cons, reduceIte, Nat.reduceEqDiff]; congr 1; omega)
 simp (disch := first|omega|(with_unfolding_all exact rfl)|(simp only[new_n,put_n,new_m];omega)|(refine put_m_le ?_;simp only[new_m];omega)) only [K14r12, res14, Abs.W, reduceIte, Nat.reduceEqDiff, Nat.reduceAdd, decide_true, decide_false, kLoop_def, Nat.reduceSub, Env.find_set, h1, h2]
 exact ⟨_, rfl, by omega⟩
end Go.Proofs.Ytndbihaffijhbaa.walk
set_option maxRecDepth 10000
namespace Go.Abs
structure IsAt (h : Heap) (n b w tg : Nat) (rows : List (List AV)) (v : AV) : Prop where
 wide : ∀ r ∈ rows, r.length = w
 is : (rows = [] ∧ v = .nilslice) ∨ (rows ≠ [] ∧ b < n ∧ v = .slice b 0 rows.length rows.length true ∧ h.get b = some (.cells rows.flatten (w + tg)))
theorem IsAt.nil (h : Heap) (n b w tg : Nat) : IsAt h n b w tg [] .nilslice := ⟨fun _ hr => (by cases hr), .inl ⟨rfl, rfl⟩⟩
theorem IsAt.mono {h h' : Heap} {n n' b w tg : Nat} {rows : List (List AV)} {v : AV} (r : IsAt h n b w tg rows v) (hh : b < n → h'.get b = h.get b) (hn : n ≤ n') : IsAt h' n' b w tg rows v :=
 ⟨r.wide, r.is.imp id fun ⟨h1, h2, h3, h4⟩ => ⟨h1, by omega, h3, by rw [hh h2]; exact h4⟩⟩
theorem IsAt.rows {h : Heap} {n b w tg : Nat} {rows : List (List AV)} {v : AV} (r : IsAt h n b w tg rows v) : Rows h 0 n w tg rows v :=
 ⟨r.wide, r.is.imp id fun ⟨_, h2, h3, h4⟩ => ⟨b, Nat.zero_le _, h2, h3, h4⟩⟩
theorem append_at {s : St} {b w bytes tg : Nat} {rows : List (List AV)} {v : AV} (r : IsAt s.h s.n b w tg rows v) {p sz : Nat} {row : List AV} (hp : s.h.get p = some (.cells row sz)) (hw : row.length = w) (hsc : scalars row = true)
  (hb : (rows.length + 1) * bytes ≤ 1000000) (htg : szOf (w + tg) = w) (hs : s.n < 549755813888) :
  ∃ s', appendA false w bytes tg s v (.slice p 0 1 1 false) = .val (.slice s.n 0 (rows.length + 1) (rows.length + 1) true) s' ∧ IsAt s'.h s'.n s.n w tg (rows ++ [row]) (.slice s.n 0 (rows.length + 1) (rows.length + 1) true) ∧ s'.n = s.n + 1 ∧ (∀ c, c < s.n → c ≠ b → s'.h.get c = s.h.get c) ∧ (∀ k, k ≤ b → k ≤ s.n → k ≤ s.m → k ≤ s'.m) ∧ s'.m ≤ s.m := by
 rcases r.is with ⟨h1, h2⟩ | ⟨h1, h2, h3, h4⟩
 ·obtain ⟨v', s', e1, e2, e3, e4, e5, e6, e7, e8⟩ := append_row (lo := s.n) (bytes := bytes) (⟨r.wide, .inl ⟨h1, h2⟩⟩ : Rows s.h s.n s.n w tg rows v) hp hw hsc hb htg hs (Nat.le_refl _)
  subst e8
  refine ⟨s', e1, ⟨e2.wide, .inr ⟨by simp, by omega, by simp, ?_⟩⟩, e3, fun c hc _ => e4 c hc, fun k _ hk hm => e6 k hk hm, e7⟩
  rcases e2.is with ⟨z, _⟩ | ⟨b', _, _, z2, z3⟩
  ·simp at z
  ·injection z2 with z2
   rw [z2]; exact z3
 ·obtain ⟨v', s', e1, e2, e3, e4, e5, e6, e7, e8⟩ := append_row (lo := b) (bytes := bytes) (⟨r.wide, .inr ⟨b, Nat.le_refl _, h2, h3, h4⟩⟩ : Rows s.h b s.n w tg rows v) hp hw hsc hb htg hs (by omega)
  subst e8
  refine ⟨s', e1, ⟨e2.wide, .inr ⟨by simp, by omega, by simp, ?_⟩⟩, e3, fun c hc hcb => e5 c hc (by rw [h3]; intro z; injection z with z; exact hcb z.symm), fun k hk _ hm => e6 k hk hm, e7⟩
  rcases e2.is with ⟨z, _⟩ | ⟨b', _, _, z2, z3⟩
  ·simp at z
  ·injection z2 with z2
   rw [z2]; exact z3
theorem IsAt.apart {h : Heap} {n b w tg c o : Nat} {rows : List (List AV)} {v : AV} (r : IsAt h n b w tg rows v) (hc : b ≠ c) : apartA v (.ptr c o) = true := by
 rcases r.is with ⟨_, h2⟩ | ⟨_, _, h3, _⟩
 ·subst h2; rfl
 ·subst h3; exact apart_slice hc
end Go.Abs
namespace Go.Proofs.Ytndbihaffijhbaa.walk
open Go.Abs Go.Proofs.Ytndbihaffijhbaa.code
theorem ints_len (l : List Int) : (ints l).length = l.length := by unfold ints; rw [List.length_map]
theorem ints_snoc (l : List Int) (x : Int) : ints l ++ [[.int .i64 x]] = ints (l ++ [x]) := by unfold ints; rw [List.map_append]; rfl
abbrev IntsAt (h : Heap) (n b : Nat) (l : List Int) (v : AV) : Prop := IsAt h n b 1 (tag 3) (ints l) v
theorem IntsAt.at_ {h : Heap} {n b : Nat} {l : List Int} {v : AV} (r : IntsAt h n b l v) : RowsAt h n 1 (ints l) v := r.rows.at_
def TabUp (h : Heap) (n b : Nat) (tab : List (List Int)) (v : AV) (no : Nat → Prop) : Prop :=
 ∃ vs : List AV, vs.length = tab.length ∧ IsAt h n b 1 (tag 22) (vs.map fun v => [v]) v ∧ ∀ j (h1 : j < vs.length) (h2 : j < tab.length), ∃ x, no x ∧ IntsAt h n x tab[j] vs[j] ∧ tab[j] ≠ []
theorem TabUp.nil (h : Heap) (n b : Nat) (no : Nat → Prop) : TabUp h n b [] .nilslice no := ⟨[], rfl, IsAt.nil _ _ _ _ _, fun j h1 _ => by simp at h1⟩
theorem TabUp.mono {h h' : Heap} {n n' b : Nat} {tab : List (List Int)} {v : AV} {no no' : Nat → Prop} (r : TabUp h n b tab v no) (hb : b < n → h'.get b = h.get b) (hh : ∀ x, x < n → no x → h'.get x = h.get x ∧ no' x) (hn : n ≤ n') : TabUp h' n' b tab v no' := by
 obtain ⟨vs, h1, h2, h3⟩ := r
 refine ⟨vs, h1, h2.mono hb hn, fun j j1 j2 => ?_⟩
 obtain ⟨x, x1, x2, x3⟩ := h3 j j1 j2
 have xn : x < n := by
  rcases x2.is with ⟨z, _⟩ | ⟨_, z, _⟩
  ·exact absurd (by simpa [ints] using z) x3
  ·exact z
 exact ⟨x, (hh x xn x1).2, x2.mono (fun _ => (hh x xn x1).1) hn, x3⟩
theorem TabUp.push {h' : Heap} {n' b' : Nat} {tab : List (List Int)} {v' w : AV} {no : Nat → Prop} {vs : List AV} {row : List Int} (h1 : vs.length = tab.length) (h2 : IsAt h' n' b' 1 (tag 22) ((vs.map fun v => [v]) ++ [[w]]) v')
  (h3 : ∀ j (h1 : j < vs.length) (h2 : j < tab.length), ∃ x, no x ∧ IntsAt h' n' x tab[j] vs[j] ∧ tab[j] ≠ []) {x : Nat} (hx : no x) (hw : IntsAt h' n' x row w) (hr : row ≠ []) : TabUp h' n' b' (tab ++ [row]) v' no := by
 refine ⟨vs ++ [w], by simp [h1], by rw [List.map_append]; exact h2, fun j j1 j2 => ?_⟩
 by_cases e : j < vs.length
 ·rw [List.getElem_append_left e, List.getElem_append_left (by omega)]
  exact h3 j e (by omega)
 ·rw [List.getElem_append_right (by omega), List.getElem_append_right (by omega)]
  have : j = vs.length := by rw [List.length_append, List.length_singleton] at j1; omega
  subst this
  simp only [h1, Nat.sub_self, List.getElem_singleton]
  exact ⟨x, hx, hw, hr⟩
theorem nth_ones : ∀ (vs : List AV) (i : Nat) (hi : i < vs.length), nth (vs.map fun v => [v]).flatten i = vs[i]
 | [], i, h => by simp at h
 | a :: vs, 0, _ => rfl
 | a :: vs, i + 1, h => by
  rw [List.map_cons, List.flatten_cons, List.cons_append, nth_cons, if_neg (by omega), Nat.add_sub_cancel, List.nil_append]
  exact nth_ones vs i (by simpa using h)
theorem TabUp.tab {h : Heap} {n b : Nat} {tab : List (List Int)} {v : AV} {no : Nat → Prop} (r : TabUp h n b tab v no) : Tab h n tab v := by
 obtain ⟨vs, h1, h2, h3⟩ := r
 refine ⟨fun t => okA_ne h2.rows.at_.ne, fun i hi => ?_⟩
 obtain ⟨x, _, x2, x3⟩ := h3 i (by omega) hi
 rcases h2.is with ⟨z, _⟩ | ⟨_, z1, z2, z3⟩
 ·rw [List.map_eq_nil_iff] at z
  subst z
  simp at h1
  omega
 ·refine ⟨b, 0 + i * 1, _, _, vs[i]'(by omega), z1, fun s => by rw [z2]; exact ixs_slice 1 s b 0 _ _ true i (by rw [List.length_map]; omega), z3, by rw [Nat.zero_add, Nat.mul_one]; exact nth_ones vs i (by omega), fun t => okA_ne x2.at_.ne, x2.at_⟩
end Go.Proofs.Ytndbihaffijhbaa.walk
set_option maxRecDepth 10000
namespace Go.Proofs.Ytndbihaffijhbaa.walk
open Go.Abs
theorem lev_mono' {room room' : Int} {melt melt' : Int → Int} (hr : room ≤ room') : ∀ (k : Nat) (hour i i' : Int) (fs : List (Int × Int)), (∀ h, hour ≤ h → h < hour + k → melt' h ≤ melt h) → i ≤ i' → lev room melt k hour i fs ≤ lev room' melt' k hour i' fs
 | 0, hour, i, i', fs, _, h => fill1_mono hr fs i i' h
 | k + 1, hour, i, i', fs, hm, h => by
  unfold lev
  have h1 := fill1_mono (hour := hour) hr fs i i' h
  have h2 := hm hour (Int.le_refl _) (by omega)
  exact lev_mono' hr k (hour + 1) _ _ _ (fun h a b => hm h (by omega) (by omega)) (by omega)
theorem Truth.In.fall {T : Truth} {c : Cellar} {hours : Nat} (tin : T.In c hours) (ok : c.Ok) {b : Nat} (hb : b < c.boxes.length) (k : Nat) (hk : k ≤ hours) : c.iceLo b k ≤ T.fall c b k ∧ T.fall c b k ≤ c.iceHi b k := by
 have hbi : b < T.ice.length := by rw [tin.il]; exact hb
 have hbm : b < T.melts.length := by rw [tin.melts.len]; exact hb
 have hi := tin.ice b hbi
 obtain ⟨hl, hr⟩ := tin.melts.row b hbm
 have key : ∀ h : Int, 0 ≤ h → h < 0 + (k : Int) → (c.box b).ml ≤ (T.melts.getD b []).getD h.toNat 0 ∧ (T.melts.getD b []).getD h.toNat 0 ≤ (c.box b).mh := fun h h0 h1 => by
  have hlt : h.toNat < (T.melts[b]).length := by omega
  rw [getD_eq [] hbm, getD_eq 0 hlt]
  exact hr _ (List.getElem_mem hlt)
 have e : T.fall c b k = lev (c.box b).room (fun h => (T.melts.getD b []).getD h.toNat 0) k 0 (T.ice[b]) (c.of b) := by
  unfold Truth.fall
  rw [getD_eq 0 hbi]
  exact fallN_eq c ok b k _ _ _ fun h => by rw [Int.toNat_natCast]
 rw [e]
 exact ⟨lev_mono' (Int.le_refl _) k 0 _ _ _ (fun h h0 h1 => (key h h0 h1).2) hi.1, lev_mono' (Int.le_refl _) k 0 _ _ _ (fun h h0 h1 => (key h h0 h1).1) hi.2⟩
theorem Truth.In.around {T : Truth} {c : Cellar} {hours : Nat} (tin : T.In c hours) (ok : c.Ok) (l : Lot) (okl : l.Ok c.boxes.length) (k : Nat) (hk : k < hours) : (c.at l k).1 ≤ T.around c l.stays k ∧ T.around c l.stays k ≤ (c.at l k).2 := by
 unfold Cellar.at Truth.around
 cases hf : l.stays.find? (hit k) with
 | none =>
  have hlt : k < T.hall.length := by rw [tin.hl]; exact hk
  simp only
  rw [getD_eq 0 hlt]
  exact tin.hall _ (List.getElem_mem hlt)
 | some t =>
  have ht := okl.sok t (List.mem_of_find?_eq_some hf)
  obtain ⟨b, hb⟩ : ∃ b : Nat, t.box = b := ⟨t.box.toNat, by have := ht.b0; omega⟩
  have hlt : b < c.boxes.length := by have := ht.b1; omega
  simp only [hb, Int.toNat_natCast]
  have okb := ok.bok _ (List.getElem_mem hlt)
  rw [← c.box_eq hlt] at okb
  obtain ⟨_, _, _, _, _, _, _, _, _, c1, c2, c3, _⟩ := okb
  obtain ⟨i1, i2⟩ := tin.fall ok hlt k (by omega)
  have hbc : b < T.cold.length := by rw [tin.cold.len]; exact hlt
  have hbw : b < T.warm.length := by rw [tin.warm.len]; exact hlt
  obtain ⟨lc, rc⟩ := tin.cold.row b hbc
  obtain ⟨lw, rw'⟩ := tin.warm.row b hbw
  have hc := rc _ (List.getElem_mem (show k < (T.cold[b]).length by omega))
  have hw := rw' _ (List.getElem_mem (show k < (T.warm[b]).length by omega))
  rw [getD_eq [] hbc, getD_eq [] hbw, getD_eq 0 (show k < (T.cold[b]).length by omega), getD_eq 0 (show k < (T.warm[b]).length by omega)]
  show (if 0 < c.iceHi b k then (c.box b).cl else (c.box b).wl) ≤ (if 0 < T.fall c b k then (T.cold[b])[k]'(by omega) else (T.warm[b])[k]'(by omega)) ∧ (if 0 < T.fall c b k then (T.cold[b])[k]'(by omega) else (T.warm[b])[k]'(by omega)) ≤ (if 0 < c.iceLo b k then (c.box b).ch else (c.box b).wh)
  split <;> split <;> split <;> omega
theorem sumN_total {f : Nat → Int} {g : Int × Int → Int} {u : Nat → Int × Int} : ∀ m : Nat, ((∀ i, i < m → f i ≤ g (u i)) → sumN f m ≤ total g ((List.range m).map u)) ∧ ((∀ i, i < m → g (u i) ≤ f i) → total g ((List.range m).map u) ≤ sumN f m)
 | 0 => ⟨fun _ => Int.le_refl _, fun _ => Int.le_refl _⟩
 | m + 1 => by
  obtain ⟨h1, h2⟩ := sumN_total (f := f) (g := g) (u := u) m
  rw [List.range_succ, List.map_append]
  show (_ → sumN f (m + 1) ≤ total g (_ ++ [u m])) ∧ (_ → total g (_ ++ [u m]) ≤ sumN f (m + 1))
  rw [total_snoc]
  unfold sumN
  exact ⟨fun h => by have := h1 fun i hi => h i (by omega); have := h m (by omega); omega, fun h => by have := h2 fun i hi => h i (by omega); have := h m (by omega); omega⟩
theorem Truth.In.lost {T : Truth} {c : Cellar} {hours : Nat} (tin : T.In c hours) (ok : c.Ok) (l : Lot) (okl : l.Ok c.boxes.length) (m : Nat) (hm : l.born + m ≤ hours) (hm2 : l.born + m ≤ 240) : (c.lost l m).1 ≤ T.lost c l m ∧ T.lost c l m ≤ (c.lost l m).2 := by
 have b0 := okl.b0
 have key : ∀ i : Nat, i < m → warmAt (tabsOf c.boxes c.fills c.boxes.length) l.stays c.hl c.hh (l.born + (i : Int)) = c.at l (l.born + i).toNat := fun i hi => by
  have e : l.born + (i : Int) = ((l.born + i).toNat : Int) := by omega
  rw [e, Int.toNat_natCast]
  exact c.warmAt_eq l okl _ (by omega)
 unfold Cellar.lost Cellar.warms walk.warms lostLo lostHi Truth.lost
 exact ⟨(sumN_total m).2 fun i hi => by rw [key i hi]; exact lossFrom_mono _ ok.ro _ _ (tin.around ok l okl _ (by omega)).1, (sumN_total m).1 fun i hi => by rw [key i hi]; exact lossFrom_mono _ ok.ro _ _ (tin.around ok l okl _ (by omega)).2⟩
/-! ### The two ends -/
end Go.Proofs.Ytndbihaffijhbaa.walk
set_option maxRecDepth 10000
namespace Go.Proofs.Ytndbihaffijhbaa.walk
open Go.Abs Go.Proofs.Ytndbihaffijhbaa.code
theorem all_snoc {α : Type} {P : Nat → α → Prop} {l : List α} {x : α} (h : ∀ j (hj : j < l.length), P j l[j]) (hx : P l.length x) : ∀ j (hj : j < (l ++ [x]).length), P j (l ++ [x])[j] := by
 intro j hj
 by_cases e : j < l.length
 ·rw [List.getElem_append_left e]; exact h j e
 ·have : j = l.length := by rw [List.length_append, List.length_singleton] at hj; omega
  subst this
  rw [List.getElem_append_right (Nat.le_refl _)]
  simpa using hx
end Go.Proofs.Ytndbihaffijhbaa.walk
set_option maxRecDepth 10000
namespace Go.Proofs.Ytndbihaffijhbaa.walk
open Go.Abs Go.Proofs.Ytndbihaffijhbaa.code
def Rest (lo ba bb bc bd : Nat) (x : Nat) : Prop := lo ≤ x ∧ x ≠ ba ∧ x ≠ bb ∧ x ≠ bc ∧ x ≠ bd
structure TruthUp (h : Heap) (n lo p7 z : Nat) (ve : AV) (ba bb bc bd : Nat) (T : Truth) (va vb vc vd : AV) : Prop where
 g7 : h.get p7 = some (.cells [va, vb, vc, vd, ve] z)
 ice : IntsAt h n ba T.ice va
 melts : TabUp h n bb T.melts vb (Rest lo ba bb bc bd)
 cold : TabUp h n bc T.cold vc (Rest lo ba bb bc bd)
 warm : TabUp h n bd T.warm vd (Rest lo ba bb bc bd)
 lo : lo ≤ ba ∧ lo ≤ bb ∧ lo ≤ bc ∧ lo ≤ bd
 new : (ba < n ∨ far < ba) ∧ (bb < n ∨ far < bb) ∧ (bc < n ∨ far < bc) ∧ (bd < n ∨ far < bd)
 ne : ba ≠ bb ∧ ba ≠ bc ∧ ba ≠ bd ∧ bb ≠ bc ∧ bb ≠ bd ∧ bc ≠ bd
 len : T.melts.length = T.ice.length ∧ T.cold.length = T.ice.length ∧ T.warm.length = T.ice.length
def Truth.push (T : Truth) (e : Int) (x y w : List Int) : Truth := ⟨T.ice ++ [e], T.melts ++ [x], T.cold ++ [y], T.warm ++ [w], T.hall⟩
end Go.Proofs.Ytndbihaffijhbaa.walk
set_option maxRecDepth 10000
namespace Go.Proofs.Ytndbihaffijhbaa.walk
open Go.Abs Go.Proofs.Ytndbihaffijhbaa.code
def RowsAre (bs : List Box) (hours : Nat) (f : Box → Int) (tab : List (List Int)) : Prop := ∀ j (_ : j < tab.length), ∀ hb : j < bs.length, (tab[j]).length = hours ∧ ∀ e ∈ tab[j], e = f bs[j]
theorem RowsAre.push {bs : List Box} {hours : Nat} {f : Box → Int} {tab : List (List Int)} (h : RowsAre bs hours f tab) {row : List Int} (hl : row.length = hours) (hb : tab.length < bs.length) (hr : ∀ e ∈ row, e = f bs[tab.length]) : RowsAre bs hours f (tab ++ [row]) :=
 all_snoc (P := fun j (x : List Int) => ∀ hb : j < bs.length, x.length = hours ∧ ∀ e ∈ x, e = f bs[j]) h fun _ => ⟨hl, hr⟩
theorem at_scal {h : Heap} {n b w tg : Nat} {rows : List (List AV)} {v : AV} (r : IsAt h n b w tg rows v) : v.scalar = true := by
 rcases r.is with ⟨_, h2⟩ | ⟨_, _, h3, _⟩
 ·subst h2; rfl
 ·subst h3; rfl
theorem tab_scal {h : Heap} {n b : Nat} {tab : List (List Int)} {v : AV} {no : Nat → Prop} (r : TabUp h n b tab v no) : v.scalar = true := by
 obtain ⟨vs, _, h2, _⟩ := r
 exact at_scal h2
end Go.Proofs.Ytndbihaffijhbaa.walk
set_option maxRecDepth 10000
namespace Go.Proofs.Ytndbihaffijhbaa.walk
open Go.Abs Go.Proofs.Ytndbihaffijhbaa.code
theorem true_ex {N d : Nat} {lo hi : Int} {s : St} {r : ARes} (hr : call Try.prog X N (.fn 37) [.ptr d 0, .agg [.int .i64 lo, .int .i64 hi]] s = r) (hN : 5 ≤ N) (hd : Die d s.h) (hlt : d < s.n) (hs : s.n + 600 ≤ far)
  (h0 : -1000000 ≤ lo) (h1 : lo ≤ hi) (h2 : hi ≤ 1000000) :
  ∃ a t, r = .val (.int .i64 a) t ∧ Stir d s t 3 ∧ Die d t.h ∧ lo ≤ a ∧ a ≤ hi := by
 obtain ⟨n, rfl⟩ : ∃ n, N = n + 1 := ⟨N - 1, by omega⟩
 have hff : far = 1000000000 := rfl
 obtain ⟨v, t, e, st, ⟨x, rfl, q0, q1⟩, hd'⟩ := call_stir_plain (n := n) (args := [.ptr d 0, .agg [.int .i64 lo, .int .i64 hi]]) (d := d) (k := 3) (Q := fun v => ∃ x : Int, v = .int .i64 x ∧ lo ≤ x ∧ x ≤ hi) (R := Die d) Try.func37 hd (fun u uh un um => by
  rw [← uh] at hd
  rw [enter37]
  simp (disch := first|omega|(with_unfolding_all exact rfl)|(simp only[new_n,put_n,new_m];omega)|(refine put_m_le ?_;simp only[new_m];omega)) only [res37, K37, K37r0, Abs.W, reduceIte, Nat.reduceEqDiff, Nat.reduceAdd, decide_true, decide_false, kLoop_def, Nat.reduceSub]
  obtain ⟨y, hy⟩ : ∃ y : St, y = u.new (.cells [.int .i64 lo, .int .i64 hi] (tag 26)) := ⟨_, rfl⟩
  rw [← hy]
  have yn : y.n = u.n + 1 := by rw [hy]; rfl
  have ym : y.m = far := by rw [hy]; exact um
  have yg : ∀ c, c < u.n → y.h.get c = u.h.get c := fun c hc => by rw [hy, get_new_ne _ _ _ (by omega)]
  have y0 : y.h.get u.n = some (.cells [.int .i64 lo, .int .i64 hi] (tag 26)) := by rw [hy]; exact get_new_eq _ _ _ rfl (by omega)
  have dy : Die d y.h := by obtain ⟨f, hg⟩ := hd; exact ⟨f, by rw [yg _ (by omega)]; exact hg⟩
  simp (disch := first|omega|(with_unfolding_all exact rfl)|(simp only[new_n,put_n,new_m];omega)|(refine put_m_le ?_;simp only[new_m];omega)) only [K37r1, Abs.W, reduceIte, Nat.reduceEqDiff, Nat.reduceAdd, decide_true, decide_false, kLoop_def, Nat.reduceSub, Env.find_set, y0, Nat.reduceAdd, Nat.zero_add]
  generalize hc1 : call _ _ _ (.fn 28) _ _ = r1
  obtain ⟨x1, t1, rfl, st1, d1, x10, x11⟩ := from_ex hc1 (by omega) dy (by show d < y.n; omega) (by show y.n + 200 ≤ far; omega) (by omega) (by omega) (by omega) (by omega)
  have n1 : y.n ≤ t1.n := st1.n
  have k1 : t1.n ≤ y.n := st1.le
  have p1 : t1.h.get u.n = some (.cells [.int .i64 lo, .int .i64 hi] (tag 26)) := (st1.same u.n (by show u.n < y.n; omega) (by omega)).trans y0
  simp (disch := first|omega|(with_unfolding_all exact rfl)|(simp only[new_n,put_n,new_m];omega)|(refine put_m_le ?_;simp only[new_m];omega)) only [K37r1, Abs.W, reduceIte, Nat.reduceEqDiff, Nat.reduceAdd, decide_true, decide_false, kLoop_def, Nat.reduceSub, Env.find_set, thenT_turn, p1, Nat.reduceAdd, Nat.zero_add]
  generalize hc2 : call _ _ _ (.fn 28) _ _ = r2
  obtain ⟨x2, t2, rfl, st2, d2, x20, x21⟩ := from_ex hc2 (by omega) d1 (by show d < t1.n; omega) (by show t1.n + 200 ≤ far; omega) (by omega) (by omega) (by omega) (by omega)
  have n2 : t1.n ≤ t2.n := st2.n
  have k2 : t2.n ≤ t1.n := st2.le
  have p2 : t2.h.get u.n = some (.cells [.int .i64 lo, .int .i64 hi] (tag 26)) := (st2.same u.n (by show u.n < t1.n; omega) (by omega)).trans p1
  simp (disch := first|omega|(with_unfolding_all exact rfl)|(simp only[new_n,put_n,new_m];omega)|(refine put_m_le ?_;simp only[new_m];omega)) only [K37r1, Abs.W, reduceIte, Nat.reduceEqDiff, Nat.reduceAdd, decide_true, decide_false, kLoop_def, Nat.reduceSub, Env.find_set, thenT_turn, Nat.reduceAdd, Nat.zero_add]
  generalize hc3 : call _ _ _ (.fn 29) _ _ = r3
  obtain ⟨x3, t3, rfl, st3, d3, m3⟩ := one_ex [lo, hi, x1, x2] hc3 (by omega) (by obtain ⟨f, hg⟩ := d2; exact ⟨f, by rw [get_new_ne _ _ _ (by show d ≠ t2.n; omega)]; exact hg⟩) (by show d < t2.n + 1; omega) (by show t2.n + 1 + 200 ≤ far; omega) (get_new_eq _ _ _ rfl (by show t2.n < _; omega)) (by show t2.n < t2.n + 1; omega) (by show t2.n ≠ d; omega) rfl (by omega) (by omega)
  have x3r : lo ≤ x3 ∧ x3 ≤ hi := by
   simp only [List.mem_cons, List.not_mem_nil, or_false] at m3
   omega
  have n3 : t2.n + 1 ≤ t3.n := st3.n
  have k3 : t3.n ≤ t2.n + 1 := st3.le
  simp (disch := first|omega|(with_unfolding_all exact rfl)|(simp only[new_n,put_n,new_m];omega)|(refine put_m_le ?_;simp only[new_m];omega)) only [K37r1, Abs.W, reduceIte, Nat.reduceEqDiff, Nat.reduceAdd, decide_true, decide_false, kLoop_def, Nat.reduceSub, Env.find_set, thenT_turn]
  have kp : ∀ (a b : Heap) (M : Env), a.get u.n = some (.cells [.int .i64 lo, .int .i64 hi] (tag 26)) → b.get u.n = some (.cells [.int .i64 lo, .int .i64 hi] (tag 26)) → M.find 6 = .ptr u.n 0 → M.find 8 = .ptr u.n 1 → keptAll a b M [6, 8] = true := fun a b M h2 h3 h1 h4 => by
   simp only [keptAll_cons, keptAll_nil, h1, h4, keptV_ptr, h2, h3, sameO_cells, Bool.and_self]
  have kp4 : ∀ (a b : Heap) (M : Env), a.get u.n = some (.cells [.int .i64 lo, .int .i64 hi] (tag 26)) → b.get u.n = some (.cells [.int .i64 lo, .int .i64 hi] (tag 26)) → M.find 6 = .ptr u.n 0 → M.find 8 = .ptr u.n 1 → M.find 17 = .ptr u.n 0 → M.find 19 = .ptr u.n 1 → keptAll a b M [6, 8, 17, 19] = true := fun a b M h2 h3 h1 h4 h5 h6 => by
   simp only [keptAll_cons, keptAll_nil, h1, h4, h5, h6, keptV_ptr, h2, h3, sameO_cells, Bool.and_self]
  rw [endT_kept (s := ⟨t1.h, t1.n, minN y.m t1.m⟩) (kp _ _ _ p1 p2 (by simp only [find_cons, reduceIte, Nat.reduceEqDiff]) (by simp only [find_cons, reduceIte, Nat.reduceEqDiff])), endT_kept (kp4 _ _ _ y0 p1 (by simp only [find_cons, reduceIte, Nat.reduceEqDiff]) (by simp only [find_cons, reduceIte, Nat.reduceEqDiff]) (by simp only [find_cons, reduceIte, Nat.reduceEqDiff]) (by simp only [find_cons, reduceIte, Nat.reduceEqDiff]))]
  simp (disch := first|omega|(with_unfolding_all exact rfl)|(simp only[new_n,put_n,new_m];omega)|(refine put_m_le ?_;simp only[new_m];omega)) only [res37, Abs.W, reduceIte, Nat.reduceEqDiff, Nat.reduceAdd, decide_true, decide_false, kLoop_def, Nat.reduceSub, Env.find_set, endO_nil, regD_ok]
  have h1 := st1.m (show d ≤ far by omega)
  have h2 := st2.m (show d ≤ far by omega)
  have h3 := st3.m (show d ≤ minN (minN y.m t1.m) t2.m by rw [minN_eq, minN_eq]; omega)
  have h4 : t3.m ≤ minN (minN y.m t1.m) t2.m := st3.mle
  rw [minN_eq, minN_eq] at h4
  refine ⟨_, _, rfl, ⟨fun c hc hcd => ?_, ?_, ?_, fun _ => ?_, ?_⟩, rfl, ⟨_, rfl, x3r.1, x3r.2⟩, d3⟩
  ·rw [st3.same c (by show c < t2.n + 1; omega) hcd, get_new_ne _ _ _ (by show c ≠ t2.n; omega)]
   show t2.h.get c = _
   rw [st2.same c (by show c < t1.n; omega) hcd, st1.same c (by show c < y.n; omega) hcd]
   show y.h.get c = _
   rw [yg c hc]
  ·omega
  ·omega
  ·exact h3
  ·omega) (by omega)
 exact ⟨x, t, hr.symm.trans e, st, hd', q0, q1⟩
end Go.Proofs.Ytndbihaffijhbaa.walk
set_option maxRecDepth 10000
namespace Go.Proofs.Ytndbihaffijhbaa.walk
open Go.Abs Go.Proofs.Ytndbihaffijhbaa.code
theorem HourOf_ex {N d : Nat} {s : St} {r : ARes} {born keeps : Int} {v4 : AV} (hr : call Try.prog X N (.fn 9) [.ptr d 0, .agg [.int .i64 born, .int .i64 keeps, v4]] s = r) (hN : 6 ≤ N) (hd : Die d s.h) (hdn : d < s.n) (hs : s.n + 1000 ≤ far) (hb : 0 ≤ born ∧ born ≤ 240) :
  ∃ (h : Int) (t : St), r = .val (.int .i64 h) t ∧ Stir d s t 10 ∧ Die d t.h ∧ born ≤ h ∧ h ≤ 240 := by
 obtain ⟨n, rfl⟩ : ∃ n, N = n + 1 := ⟨N - 1, by omega⟩
 have hff : far = 1000000000 := rfl
 obtain ⟨v, t, e, st, ⟨h, rfl, h0, h1⟩, hd'⟩ := call_stir_plain (n := n) (args := [.ptr d 0, .agg [.int .i64 born, .int .i64 keeps, v4]]) (d := d) (k := 10) (Q := fun v => ∃ h : Int, v = .int .i64 h ∧ born ≤ h ∧ h ≤ 240) (R := Die d) Try.func9 hd (fun u uh un um => by
  rw [← uh] at hd
  rw [enter9]
  simp (disch := first|omega|(with_unfolding_all exact rfl)|(simp only[new_n,put_n,new_m];omega)|(refine put_m_le ?_;simp only[new_m];omega)) only [res9, K9, K9r0, Abs.W, reduceIte, Nat.reduceEqDiff, Nat.reduceAdd, decide_true, decide_false, kLoop_def, Nat.reduceSub]
  obtain ⟨w, hw⟩ : ∃ w : St, w = u.new (.cells [.int .i64 born, .int .i64 keeps, v4] (tag 35)) := ⟨_, rfl⟩
  rw [← hw]
  have wn : w.n = u.n + 1 := by rw [hw]; rfl
  have wm : w.m = far := by rw [hw]; exact um
  have wg : ∀ c, c < u.n → w.h.get c = u.h.get c := fun c hc => by rw [hw, get_new_ne _ _ _ (by omega)]
  have w0 : w.h.get u.n = some (.cells [.int .i64 born, .int .i64 keeps, v4] (tag 35)) := by rw [hw]; exact get_new_eq _ _ _ rfl (by omega)
  have dw : Die d w.h := by obtain ⟨f, hg⟩ := hd; exact ⟨f, by rw [wg _ (by omega)]; exact hg⟩
  simp (disch := first|omega|(with_unfolding_all exact rfl)|(simp only[new_n,put_n,new_m];omega)|(refine put_m_le ?_;simp only[new_m];omega)) only [K9r1, Abs.W, reduceIte, Nat.reduceEqDiff, Nat.reduceAdd, decide_true, decide_false, kLoop_def, Nat.reduceSub, Env.find_set, w0]
  obtain ⟨y, hy⟩ : ∃ y : St, y = w.new (.cells [.int .i64 6, .int .i64 30, .int .i64 60] 0) := ⟨_, rfl⟩
  rw [← hy]
  have yn : y.n = w.n + 1 := by rw [hy]; rfl
  have ym : y.m = far := by rw [hy]; exact wm
  have yg : ∀ c, c < w.n → y.h.get c = w.h.get c := fun c hc => by rw [hy, get_new_ne _ _ _ (by omega)]
  have y0 := (yg u.n (by omega)).trans w0
  have y1 : y.h.get w.n = some (.cells [.int .i64 6, .int .i64 30, .int .i64 60] 0) := by rw [hy]; exact get_new_eq _ _ _ rfl (by omega)
  have dy : Die d y.h := by obtain ⟨f, hg⟩ := dw; exact ⟨f, by rw [yg _ (by omega)]; exact hg⟩
  generalize hc1 : call _ _ _ (.fn 29) _ _ = r1
  obtain ⟨x1, t1, rfl, st1, d1, m1⟩ := one_ex [6, 30, 60] hc1 (by omega) dy (by show d < y.n; omega) (by show y.n + 200 ≤ far; omega) y1 (by show w.n < y.n; omega) (by omega) rfl (by omega) (by omega)
  have x1r : x1 = 6 ∨ x1 = 30 ∨ x1 = 60 := by simpa using m1
  have n1 : y.n ≤ t1.n := st1.n
  have k1 : t1.n ≤ y.n := st1.le
  have p1 : t1.h.get u.n = some (.cells [.int .i64 born, .int .i64 keeps, v4] (tag 35)) := (st1.same u.n (by show u.n < y.n; omega) (by omega)).trans y0
  simp (disch := first|omega|(with_unfolding_all exact rfl)|(simp only[new_n,put_n,new_m];omega)|(refine put_m_le ?_;simp only[new_m];omega)) only [K9r1, Abs.W, reduceIte, Nat.reduceEqDiff, Nat.reduceAdd, decide_true, decide_false, kLoop_def, Nat.reduceSub, Env.find_set, thenT_turn]
  generalize hc2 : call _ _ _ (.fn 10) _ _ = r2
  obtain ⟨x2, t2, rfl, st2, d2, x20, x21⟩ := cast_ex hc2 (by omega) d1 (by show d < t1.n; omega) (by show t1.n + 100 ≤ far; omega) (by omega)
  have n2 : t1.n ≤ t2.n := st2.n
  have k2 : t2.n ≤ t1.n := st2.le
  have p2 : t2.h.get u.n = some (.cells [.int .i64 born, .int .i64 keeps, v4] (tag 35)) := (st2.same u.n (by show u.n < t1.n; omega) (by omega)).trans p1
  have a2 : ∀ s, aAdd s .i64 born x2 = .val (.int .i64 (born + x2)) s := fun s => aAdd_i64 s _ _ (by omega)
  simp (disch := first|omega|(with_unfolding_all exact rfl)|(simp only[new_n,put_n,new_m];omega)|(refine put_m_le ?_;simp only[new_m];omega)) only [K9r1, Abs.W, reduceIte, Nat.reduceEqDiff, Nat.reduceAdd, decide_true, decide_false, kLoop_def, Nat.reduceSub, Env.find_set, thenT_turn, a2, kFold_def, foldA_nil, foldA_cons, minA_i64]
  have kp : ∀ (a b : Heap) (M : Env), M.find 5 = .ptr u.n 0 → a.get u.n = some (.cells [.int .i64 born, .int .i64 keeps, v4] (tag 35)) → b.get u.n = some (.cells [.int .i64 born, .int .i64 keeps, v4] (tag 35)) → keptAll a b M [5] = true := fun a b M h1 h2 h3 => by
   simp only [keptAll_cons, keptAll_nil, h1, keptV_ptr, h2, h3, sameO_cells, Bool.and_self]
  rw [endT_kept (s := ⟨t1.h, t1.n, minN y.m t1.m⟩) (kp _ _ _ (by simp only [find_cons, reduceIte, Nat.reduceEqDiff]) p1 p2), endT_kept (kp _ _ _ (by simp only [find_cons, reduceIte, Nat.reduceEqDiff]) y0 p1)]
  simp (disch := first|omega|(with_unfolding_all exact rfl)|(simp only[new_n,put_n,new_m];omega)|(refine put_m_le ?_;simp only[new_m];omega)) only [res9, Abs.W, reduceIte, Nat.reduceEqDiff, Nat.reduceAdd, decide_true, decide_false, kLoop_def, Nat.reduceSub, Env.find_set, endO_nil, regD_ok]
  have h1 := st1.m (show d ≤ far by omega)
  have h2 := st2.m (show d ≤ far by omega)
  refine ⟨_, _, rfl, ⟨fun c hc hcd => ?_, ?_, ?_, fun _ => ?_, ?_⟩, rfl, ⟨_, rfl, by omega, by omega⟩, d2⟩
  ·show t2.h.get c = _
   rw [st2.same c (by show c < t1.n; omega) hcd, st1.same c (by show c < y.n; omega) hcd]
   show y.h.get c = _
   rw [yg c (by omega), wg c hc]
  ·show u.n ≤ t2.n; omega
  ·show t2.n ≤ u.n + 10; omega
  ·show d ≤ minN (minN y.m t1.m) t2.m; rw [minN_eq, minN_eq]; omega
  ·show minN (minN y.m t1.m) t2.m ≤ u.m; rw [minN_eq, minN_eq]; omega) (by omega)
 exact ⟨h, t, hr.symm.trans e, st, hd', h0, h1⟩
end Go.Proofs.Ytndbihaffijhbaa.walk
set_option maxRecDepth 10000
namespace Go.Proofs.Ytndbihaffijhbaa.walk
open Go.Abs Go.Proofs.Ytndbihaffijhbaa.code
theorem of_hall_round (N : Nat) (hN : 6 ≤ N) (cx : Ctx) (L : Env) (s : St) (d p4 p7 z4 z7 b i hours : Nat) (l : List Int) (hl hh : Int) (v v1 v2 v3 : AV) (hi : i < hours) (hh5 : hours ≤ 500) (hd : Die d s.h) (hd4 : d < p4) (h47 : p4 < p7) (hp7 : p7 < s.n) (hb : p7 < b) (hs : s.n + 3000 ≤ far) (ql : l.length = i) (qI : IntsAt s.h s.n b l v)
  (g4 : s.h.get p4 = some (.cells [.int .i64 hl, .int .i64 hh, v1, v2, v3] z4)) (g7 : s.h.get p7 = some (.cells [.nilslice, .nilslice, .nilslice, .nilslice, v] z7)) (h0 : -1000000 ≤ hl) (h1 : hl ≤ hh) (h2 : hh ≤ 1000000)
  (l0 : L.find 0 = .ptr d 0) (l2 : L.find 2 = .int .i64 hours) (l4 : L.find 4 = .ptr p4 0) (l7 : L.find 7 = .ptr p7 0) (l8 : L.find 8 = .int .i64 i) :
  ∃ (L1 : Env) (s1 : St) (x : Int) (v' : AV) (b' : Nat), K13l0 (call Try.prog X N) cx L [] s = .done .norm L1 [] s1 ∧ (∀ t, t = 0 ∨ t = 2 ∨ t = 4 ∨ t = 6 ∨ t = 7 → L1.find t = L.find t) ∧ L1.find 8 = .int .i64 ((i : Int) + 1) ∧ hl ≤ x ∧ x ≤ hh ∧ s.n ≤ b' ∧ IntsAt s1.h s1.n b' (l ++ [x]) v' ∧ s1.h.get p7 = some (.cells [.nilslice, .nilslice, .nilslice, .nilslice, v'] z7) ∧ Die d s1.h ∧
   (∀ c, c < s.n → c ≠ p7 → c ≠ d → c ≠ b → s1.h.get c = s.h.get c) ∧ s.n ≤ s1.n ∧ s1.n ≤ s.n + 5 ∧ (d ≤ s.m → d ≤ s1.m) ∧ s1.m ≤ s.m := by
 have hff : far = 1000000000 := rfl
 have e0 : decide ((i : Int) < (hours : Int)) = true := decide_eq_true (by omega)
 have okv : ∀ t, okA (.val v t) = .val v t := fun t => okA_ne qI.at_.ne
 have a1 : ∀ s, aAdd s .i64 (i : Int) 1 = .val (.int .i64 ((i : Int) + 1)) s := fun s => aAdd_i64 s _ _ (by omega)
 simp (disch := first|omega|(with_unfolding_all exact rfl)|(simp only[new_n,put_n,new_m];omega)|(refine put_m_le ?_;simp only[new_m];omega)) only [K13l0, K13r3, K13r4, Abs.W, reduceIte, Nat.reduceEqDiff, Nat.reduceAdd, decide_true, decide_false, kLoop_def, Nat.reduceSub, Env.find_set, l0, l2, l4, l7, l8, e0, g4, g7, okv, Nat.zero_add]
 generalize hc1 : call _ _ _ (.fn 37) _ _ = r1
 obtain ⟨x, t, rfl, st, dt, x0, x1⟩ := true_ex hc1 (by omega) hd (by show d < s.n; omega) (by show s.n + 600 ≤ far; omega) h0 h1 h2
 have n1 : s.n ≤ t.n := st.n
 have k1 : t.n ≤ s.n + 3 := st.le
 have tg : ∀ c, c < s.n → c ≠ d → t.h.get c = s.h.get c := fun c hc hcd => st.same c hc hcd
 obtain ⟨y, hy⟩ : ∃ y : St, y = ⟨t.h, t.n, minN s.m t.m⟩ := ⟨_, rfl⟩
 have yh : y.h = t.h := by rw [hy]
 have yn : y.n = t.n := by rw [hy]
 have ym : y.m ≤ s.m := by rw [hy]; show minN s.m t.m ≤ s.m; rw [minN_eq]; omega
 have ym2 : d ≤ s.m → d ≤ y.m := fun h => by
  have := st.m (by show d ≤ far; omega)
  rw [hy]; show d ≤ minN s.m t.m; rw [minN_eq]; omega
 have qI1 : IntsAt y.h y.n b l v := by rw [yh, yn]; exact qI.mono (fun h => tg b h (by omega)) n1
 have g71 := (tg p7 hp7 (by omega)).trans g7
 obtain ⟨s', e1, e2, e3, e4, e5, e6⟩ := append_at (s := y.new (.cells [.int .i64 x] 0)) (bytes := 8) (row := [.int .i64 x]) (qI1.mono (fun h => get_new_ne _ _ _ (by omega)) (Nat.le_succ _)) (get_new_eq _ _ _ rfl (by omega)) rfl rfl (by rw [ints_len]; omega) (by kernel_rfl) (by show y.n + 1 < _; omega)
 have yn1 : (y.new (.cells [.int .i64 x] 0)).n = y.n + 1 := rfl
 have hp : s'.h.get p7 = _ := (e4 p7 (by omega) (by omega)).trans ((get_new_ne _ _ _ (by omega)).trans ((by rw [yh] : y.h.get p7 = t.h.get p7).trans g71))
 simp (disch := first|omega|(with_unfolding_all exact rfl)|(simp only[new_n,put_n,new_m];omega)|(refine put_m_le ?_;simp only[new_m];omega)) only [thenT_turn, Abs.W, reduceIte, Nat.reduceEqDiff, Nat.reduceAdd, decide_true, decide_false, kLoop_def, Nat.reduceSub, Env.find_set, l7, Nat.zero_add]
 rw [← hy]
 rw [yn] at e1
 simp (disch := first|omega|(with_unfolding_all exact rfl)|(simp only[new_n,put_n,new_m];omega)|(refine put_m_le ?_;simp only[new_m];omega)) only [Abs.W, reduceIte, Nat.reduceEqDiff, Nat.reduceAdd, decide_true, decide_false, kLoop_def, Nat.reduceSub, Env.find_set, l7, e1, hp, Nat.zero_add]
 rw [endT_kept (by simp only [keptAll_cons, keptAll_nil, find_cons, Env.find_set, l7, keptV_ptr, g7, g71, sameO_cells, reduceIte, Nat.reduceEqDiff, Bool.and_self])]
 simp (disch := first|omega|(with_unfolding_all exact rfl)|(simp only[new_n,put_n,new_m];omega)|(refine put_m_le ?_;simp only[new_m];omega)) only [Abs.W, reduceIte, Nat.reduceEqDiff, Nat.reduceAdd, decide_true, decide_false, kLoop_def, Nat.reduceSub, Env.find_set, endO_nil, regD_ok, K13r5, l8, a1]
 rw [ints_snoc] at e2
 refine ⟨_, _, x, _, y.n + 1, rfl, fun t ht => ?_, ?_, x0, x1, by omega, e2.mono (fun _ => get_put_ne' _ _ _ _ (by omega)) (Nat.le_refl _), get_put_eq _ _ _ _ rfl (by omega), ?_, fun c hc hcp hcd hcb => ?_, ?_, ?_, fun h => ?_, ?_⟩
 ·rcases ht with rfl | rfl | rfl | rfl | rfl <;> simp only [Env.find_set, reduceIte, Nat.reduceEqDiff]
 ·simp only [Env.find_set, reduceIte]
 ·obtain ⟨f, hf⟩ := dt
  exact ⟨f, by rw [get_put_ne' _ _ _ _ (by omega), e4 d (by omega) (by omega), get_new_ne _ _ _ (by omega), yh]; exact hf⟩
 ·rw [get_put_ne' _ _ _ _ hcp, e4 c (by omega) hcb, get_new_ne _ _ _ (by omega), yh]; exact tg c hc hcd
 ·simp only [put_n]; omega
 ·simp only [put_n]; omega
 ·have := e5 d (by omega) (by omega) (by rw [new_m]; exact ym2 h)
  simp only [St.put, minN_eq]; omega
 ·rw [new_m] at e6
  simp only [St.put, minN_eq]; omega
theorem of_hall {N : Nat} {r : R} {cx : Ctx} {L : Env} {s : St} {hl hh : Int} {v1 v2 v3 : AV} {d p4 p7 z4 z7 : Nat} (hours : Nat) (hr : loopN K13l0 rounds (call Try.prog X N) cx L [] s = r) (hN : 6 ≤ N) (hh5 : hours ≤ 500) (hd : Die d s.h) (hd4 : d < p4) (h47 : p4 < p7) (hp7 : p7 < s.n) (hs : s.n + 9000 ≤ far)
  (g4 : s.h.get p4 = some (.cells [.int .i64 hl, .int .i64 hh, v1, v2, v3] z4)) (g7 : s.h.get p7 = some (.cells [.nilslice, .nilslice, .nilslice, .nilslice, .nilslice] z7)) (h0 : -1000000 ≤ hl) (h1 : hl ≤ hh) (h2 : hh ≤ 1000000)
  (l0 : L.find 0 = .ptr d 0) (l2 : L.find 2 = .int .i64 hours) (l4 : L.find 4 = .ptr p4 0) (l7 : L.find 7 = .ptr p7 0) (l8 : L.find 8 = .int .i64 0) :
  ∃ (L1 : Env) (s1 : St) (b : Nat) (l : List Int) (v : AV), r = .done (.exit 0) L1 [] s1 ∧ (∀ t, t = 0 ∨ t = 2 ∨ t = 4 ∨ t = 6 ∨ t = 7 → L1.find t = L.find t) ∧ l.length = hours ∧ (∀ x ∈ l, hl ≤ x ∧ x ≤ hh) ∧ s.n ≤ b ∧ IntsAt s1.h s1.n b l v ∧
   s1.h.get p7 = some (.cells [.nilslice, .nilslice, .nilslice, .nilslice, v] z7) ∧ Die d s1.h ∧ (∀ c, c < s.n → c ≠ p7 → c ≠ d → s1.h.get c = s.h.get c) ∧ s.n ≤ s1.n ∧ s1.n ≤ s.n + 5 * hours ∧ (d ≤ s.m → d ≤ s1.m) ∧ s1.m ≤ s.m := by
 have hff : far = 1000000000 := rfl
 obtain ⟨e, L1, s1, rfl, rfl, b, l, v, h⟩ := loop_of hr
  (fun i L' t => ∃ (b : Nat) (l : List Int) (v : AV), (∀ t, t = 0 ∨ t = 2 ∨ t = 4 ∨ t = 6 ∨ t = 7 → L'.find t = L.find t) ∧ L'.find 8 = .int .i64 i ∧ l.length = i ∧ (∀ x ∈ l, hl ≤ x ∧ x ≤ hh) ∧ s.n ≤ b ∧ IntsAt t.h t.n b l v ∧ t.h.get p7 = some (.cells [.nilslice, .nilslice, .nilslice, .nilslice, v] z7) ∧ Die d t.h ∧ (∀ c, c < s.n → c ≠ p7 → c ≠ d → t.h.get c = s.h.get c) ∧ s.n ≤ t.n ∧ t.n ≤ s.n + 5 * i ∧ (d ≤ s.m → d ≤ t.m) ∧ t.m ≤ s.m)
  (fun e L1 s1 => e = .exit 0 ∧ ∃ (b : Nat) (l : List Int) (v : AV), (∀ t, t = 0 ∨ t = 2 ∨ t = 4 ∨ t = 6 ∨ t = 7 → L1.find t = L.find t) ∧ l.length = hours ∧ (∀ x ∈ l, hl ≤ x ∧ x ≤ hh) ∧ s.n ≤ b ∧ IntsAt s1.h s1.n b l v ∧ s1.h.get p7 = some (.cells [.nilslice, .nilslice, .nilslice, .nilslice, v] z7) ∧ Die d s1.h ∧ (∀ c, c < s.n → c ≠ p7 → c ≠ d → s1.h.get c = s.h.get c) ∧ s.n ≤ s1.n ∧ s1.n ≤ s.n + 5 * hours ∧ (d ≤ s.m → d ≤ s1.m) ∧ s1.m ≤ s.m)
  hours (by unfold rounds; omega) ⟨far + 1, [], .nilslice, fun _ _ => rfl, l8, rfl, fun x hx => (by cases hx), by omega, IsAt.nil _ _ _ _ _, g7, hd, fun _ _ _ _ => rfl, Nat.le_refl _, Nat.le_refl _, fun h => h, Nat.le_refl _⟩
  (fun i L' t hi ⟨b, l, v, q0, q8, ql, qx, qb, qI, qg, qd, qs, qn, qk, qm, qf⟩ => by
   have g4t := (qs p4 (by omega) (by omega) (by omega)).trans g4
   by_cases hlt : i < hours
   ·obtain ⟨L1, s1, x, v', b', w0, w1, w2, w3, w4, w5, w6, w7, w8, w9, w10, w11, w12, w13⟩ := of_hall_round N hN cx L' t d p4 p7 z4 z7 b i hours l hl hh v v1 v2 v3 hlt hh5 qd hd4 h47 (by omega) (by omega) (by omega) ql qI g4t qg h0 h1 h2 ((q0 0 (by simp)).trans l0) ((q0 2 (by simp)).trans l2) ((q0 4 (by simp)).trans l4) ((q0 7 (by simp)).trans l7) q8
    refine .inl ⟨hlt, L1, s1, w0, b', l ++ [x], v', fun t ht => (w1 t ht).trans (q0 t ht), by rw [w2]; rfl, by rw [List.length_append, ql]; rfl, fun y hy => ?_, by omega, w6, w7, w8, fun c hc hcp hcd => (w9 c (by omega) hcp hcd (by omega)).trans (qs c hc hcp hcd), by omega, by omega, fun h => w12 (qm h), by omega⟩
    rcases List.mem_append.mp hy with h | h
    ·exact qx y h
    ·simp at h; rw [h]; exact ⟨w3, w4⟩
   ·obtain rfl : i = hours := by omega
    have e0 : decide ((i : Int) < (i : Int)) = false := by simp
    have k2 := (q0 2 (by simp)).trans l2
    refine .inr ⟨.exit 0, L'.set 18 (.bool false), t, by simp, ?_, rfl, b, l, v, fun t ht => ?_, ql, qx, qb, qI, qg, qd, qs, qn, qk, qm, qf⟩
    ·simp (disch := first|omega|(with_unfolding_all exact rfl)|(simp only[new_n,put_n,new_m];omega)|(refine put_m_le ?_;simp only[new_m];omega)) only [K13l0, K13r3, Abs.W, reduceIte, Nat.reduceEqDiff, Nat.reduceAdd, decide_true, decide_false, kLoop_def, Nat.reduceSub, Env.find_set, k2, q8, e0]
    ·rw [← q0 t ht]
     rcases ht with rfl | rfl | rfl | rfl | rfl <;> simp only [Env.find_set, reduceIte, Nat.reduceEqDiff])
 exact ⟨L1, s1, b, l, v, rfl, h⟩
end Go.Proofs.Ytndbihaffijhbaa.walk
set_option maxRecDepth 10000
namespace Go.Proofs.Ytndbihaffijhbaa.walk
open Go.Abs Go.Proofs.Ytndbihaffijhbaa.code
theorem draw_push {s t : St} {d b : Nat} {l : List Int} {v : AV} {x : Int} (I : IntsAt s.h s.n b l v) (st : Stir d ⟨s.h, s.n, far⟩ t 3) (dt : Die d t.h) (hdb : d < b) (hdn : d < s.n) (hb : b < s.n ∨ far < b) (hl : l.length ≤ 600) (hs : s.n + 100 ≤ far) :
  ∃ s', appendA false 1 8 (tag 3) ((⟨t.h, t.n, minN s.m t.m⟩ : St).new (.cells [.int .i64 x] 0)) v (.slice t.n 0 1 1 false) = .val (.slice (t.n + 1) 0 ((ints l).length + 1) ((ints l).length + 1) true) s' ∧ IntsAt s'.h s'.n (t.n + 1) (l ++ [x]) (.slice (t.n + 1) 0 ((ints l).length + 1) ((ints l).length + 1) true) ∧
   s'.n = t.n + 2 ∧ s.n ≤ t.n ∧ t.n ≤ s.n + 3 ∧ Die d s'.h ∧ (∀ c, c < s.n → c ≠ d → c ≠ b → s'.h.get c = s.h.get c) ∧ (d ≤ s.m → d ≤ s'.m) ∧ s'.m ≤ s.m := by
 have hff : far = 1000000000 := rfl
 have n1 : s.n ≤ t.n := st.n
 have k1 : t.n ≤ s.n + 3 := st.le
 obtain ⟨y, hy⟩ : ∃ y : St, y = ⟨t.h, t.n, minN s.m t.m⟩ := ⟨_, rfl⟩
 rw [← hy]
 have yh : y.h = t.h := by rw [hy]
 have yn : y.n = t.n := by rw [hy]
 have ym : y.m ≤ s.m := by rw [hy]; show minN s.m t.m ≤ s.m; rw [minN_eq]; omega
 have ym2 : d ≤ s.m → d ≤ y.m := fun h => by
  have := st.m (by show d ≤ far; omega)
  rw [hy]; show d ≤ minN s.m t.m; rw [minN_eq]; omega
 have I1 : IntsAt y.h y.n b l v := by rw [yh, yn]; exact I.mono (fun h => st.same b (by show b < s.n; omega) (by omega)) n1
 have yn1 : (y.new (.cells [.int .i64 x] 0)).n = y.n + 1 := rfl
 obtain ⟨s', e1, e2, e3, e4, e5, e6⟩ := append_at (s := y.new (.cells [.int .i64 x] 0)) (bytes := 8) (row := [.int .i64 x]) (I1.mono (fun h => get_new_ne _ _ _ (by omega)) (Nat.le_succ _)) (get_new_eq _ _ _ rfl (by omega)) rfl rfl (by rw [ints_len]; omega) (by kernel_rfl) (by omega)
 rw [ints_snoc] at e2
 rw [new_m] at e6
 rw [yn1, yn] at e1
 rw [yn1, yn] at e2
 refine ⟨s', e1, e2, by omega, n1, k1, ?_, fun c hc hcd hcb => ?_, fun h => ?_, by omega⟩
 ·obtain ⟨f, hf⟩ := dt
  exact ⟨f, by rw [e4 d (by omega) (by omega), get_new_ne _ _ _ (by omega), yh]; exact hf⟩
 ·rw [e4 c (by omega) hcb, get_new_ne _ _ _ (by omega), yh]; exact st.same c hc hcd
 ·exact e5 d (by omega) (by omega) (by rw [new_m]; exact ym2 h)
theorem push_plain {s t : St} {d b : Nat} {l : List Int} {v : AV} {x : Int} (I : IntsAt s.h s.n b l v) (st : Stir d s t 3) (dt : Die d t.h) (hdb : d < b) (hdn : d < s.n) (hb : b < s.n ∨ far < b) (hl : l.length ≤ 600) (hs : s.n + 100 ≤ far) :
  ∃ s', appendA false 1 8 (tag 3) (t.new (.cells [.int .i64 x] 0)) v (.slice t.n 0 1 1 false) = .val (.slice (t.n + 1) 0 ((ints l).length + 1) ((ints l).length + 1) true) s' ∧ IntsAt s'.h s'.n (t.n + 1) (l ++ [x]) (.slice (t.n + 1) 0 ((ints l).length + 1) ((ints l).length + 1) true) ∧
   s'.n = t.n + 2 ∧ s.n ≤ t.n ∧ t.n ≤ s.n + 3 ∧ Die d s'.h ∧ (∀ c, c < s.n → c ≠ d → c ≠ b → s'.h.get c = s.h.get c) ∧ (d ≤ s.m → d ≤ s'.m) ∧ s'.m ≤ s.m := by
 have hff : far = 1000000000 := rfl
 have n1 : s.n ≤ t.n := st.n
 have k1 : t.n ≤ s.n + 3 := st.le
 have I1 : IntsAt t.h t.n b l v := I.mono (fun h => st.same b h (by omega)) n1
 have yn1 : (t.new (.cells [.int .i64 x] 0)).n = t.n + 1 := rfl
 obtain ⟨s', e1, e2, e3, e4, e5, e6⟩ := append_at (s := t.new (.cells [.int .i64 x] 0)) (bytes := 8) (row := [.int .i64 x]) (I1.mono (fun h => get_new_ne _ _ _ (by omega)) (Nat.le_succ _)) (get_new_eq _ _ _ rfl (by omega)) rfl rfl (by rw [ints_len]; omega) (by kernel_rfl) (by omega)
 rw [ints_snoc] at e2
 rw [new_m] at e6
 rw [yn1] at e1
 rw [yn1] at e2
 refine ⟨s', e1, e2, by omega, n1, k1, ?_, fun c hc hcd hcb => ?_, fun h => ?_, by have := st.mle; omega⟩
 ·obtain ⟨f, hf⟩ := dt
  exact ⟨f, by rw [e4 d (by omega) (by omega), get_new_ne _ _ _ (by omega)]; exact hf⟩
 ·rw [e4 c (by omega) hcb, get_new_ne _ _ _ (by omega)]; exact st.same c hc hcd
 ·exact e5 d (by omega) (by omega) (by rw [new_m]; exact st.m h)
theorem of_rows_round (N : Nat) (hN : 6 ≤ N) (cx : Ctx) (L : Env) (s : St) (B : Box) (okB : B.Ok) (d p10 z b1 b2 b3 i hours : Nat) (x y w : List Int) (vx vy vw : AV) (hi : i < hours) (hh5 : hours ≤ 500) (hd : Die d s.h) (hd10 : d < p10) (hp : p10 < s.n) (hs : s.n + 3000 ≤ far) (hb1 : p10 < b1) (hb2 : p10 < b2) (hb3 : p10 < b3) (n12 : b1 ≠ b2) (n13 : b1 ≠ b3) (n23 : b2 ≠ b3) (f1 : b1 < s.n ∨ far < b1) (f2 : b2 < s.n ∨ far < b2) (f3 : b3 < s.n ∨ far < b3)
  (qx : x.length = i) (qy : y.length = i) (qw : w.length = i) (I1 : IntsAt s.h s.n b1 x vx) (I2 : IntsAt s.h s.n b2 y vy) (I3 : IntsAt s.h s.n b3 w vw) (g : s.h.get p10 = some (.cells B.cells z))
  (l0 : L.find 0 = .ptr d 0) (l2 : L.find 2 = .int .i64 hours) (l10 : L.find 10 = .ptr p10 0) (l11 : L.find 11 = vx) (l12 : L.find 12 = vy) (l13 : L.find 13 = vw) (l14 : L.find 14 = .int .i64 i) :
  ∃ (L1 : Env) (s1 : St) (e1 e2 e3 : Int) (ux uy uw : AV) (c1 c2 c3 : Nat), K13l1 (call Try.prog X N) cx L [] s = .done .norm L1 [] s1 ∧ (∀ t, t = 0 ∨ t = 2 ∨ t = 4 ∨ t = 6 ∨ t = 7 ∨ t = 9 ∨ t = 10 → L1.find t = L.find t) ∧ (L1.find 11 = ux ∧ L1.find 12 = uy ∧ L1.find 13 = uw) ∧ L1.find 14 = .int .i64 ((i : Int) + 1) ∧
   ((B.ml ≤ e1 ∧ e1 ≤ B.mh) ∧ (B.cl ≤ e2 ∧ e2 ≤ B.ch) ∧ (B.wl ≤ e3 ∧ e3 ≤ B.wh)) ∧ (s.n ≤ c1 ∧ s.n ≤ c2 ∧ s.n ≤ c3) ∧ (c1 < s1.n ∧ c2 < s1.n ∧ c3 < s1.n) ∧ (c1 ≠ c2 ∧ c1 ≠ c3 ∧ c2 ≠ c3) ∧ IntsAt s1.h s1.n c1 (x ++ [e1]) ux ∧ IntsAt s1.h s1.n c2 (y ++ [e2]) uy ∧ IntsAt s1.h s1.n c3 (w ++ [e3]) uw ∧ Die d s1.h ∧
   (∀ c, c < s.n → c ≠ d → c ≠ b1 → c ≠ b2 → c ≠ b3 → s1.h.get c = s.h.get c) ∧ s.n ≤ s1.n ∧ s1.n ≤ s.n + 15 ∧ (d ≤ s.m → d ≤ s1.m) ∧ s1.m ≤ s.m := by
 have hff : far = 1000000000 := rfl
 have e0 : decide ((i : Int) < (hours : Int)) = true := decide_eq_true (by omega)
 have ok1 : ∀ t, okA (.val vx t) = .val vx t := fun t => okA_ne I1.at_.ne
 have ok2 : ∀ t, okA (.val vy t) = .val vy t := fun t => okA_ne I2.at_.ne
 have ok3 : ∀ t, okA (.val vw t) = .val vw t := fun t => okA_ne I3.at_.ne
 have ad : ∀ s, aAdd s .i64 (i : Int) 1 = .val (.int .i64 ((i : Int) + 1)) s := fun s => aAdd_i64 s _ _ (by omega)
 obtain ⟨o1, o2, o3, o4, o5, o6, o7, o8, o9, o10, o11, o12, o13⟩ := okB
 have ap1 := fun o => I1.apart (c := p10) (o := o) (by omega)
 have ap2 := fun o => I2.apart (c := p10) (o := o) (by omega)
 have g' := g
 unfold Box.cells at g'
 simp (disch := first|omega|(with_unfolding_all exact rfl)|(simp only[new_n,put_n,new_m];omega)|(refine put_m_le ?_;simp only[new_m];omega)) only [K13l1, K13r12, K13r13, Abs.W, reduceIte, Nat.reduceEqDiff, Nat.reduceAdd, decide_true, decide_false, kLoop_def, Nat.reduceSub, Env.find_set, l0, l2, l10, l11, l12, l13, l14, e0, g', Nat.zero_add]
 generalize hc1 : call _ _ _ (.fn 37) _ _ = r1
 obtain ⟨e1, t1, rfl, st1, dt1, x0, x1⟩ := true_ex hc1 (by omega) hd (by show d < s.n; omega) (by show s.n + 600 ≤ far; omega) (by omega) (by omega) (by omega)
 obtain ⟨u1, a1, A1, m1, m2, m3, du1, fr1, mm1, me1⟩ := draw_push I1 st1 dt1 (by omega) (by omega) f1 (by omega) (by omega) (x := e1)
 have gt1 := (st1.same p10 (by show p10 < s.n; omega) (by omega)).trans g'
 have gu1 := (fr1 p10 (by omega) (by omega) (by omega)).trans g'
 have I2' := I2.mono (h' := u1.h) (n' := u1.n) (fun h => fr1 b2 h (by omega) (by omega)) (by omega)
 have I3' := I3.mono (h' := u1.h) (n' := u1.n) (fun h => fr1 b3 h (by omega) (by omega)) (by omega)
 simp (disch := first|omega|(with_unfolding_all exact rfl)|(simp only[new_n,put_n,new_m];omega)|(refine put_m_le ?_;simp only[new_m];omega)) only [thenT_turn, Abs.W, reduceIte, Nat.reduceEqDiff, Nat.reduceAdd, decide_true, decide_false, kLoop_def, Nat.reduceSub, Env.find_set, l0, l10, l11, l12, l13, a1, gu1, Nat.zero_add]
 generalize hc2 : call _ _ _ (.fn 37) _ _ = r2
 obtain ⟨e2, t2, rfl, st2, dt2, y0, y1⟩ := true_ex hc2 (by omega) du1 (by show d < u1.n; omega) (by show u1.n + 600 ≤ far; omega) (by omega) (by omega) (by omega)
 obtain ⟨u2, a2, A2, m4, m5, m6, du2, fr2, mm2, me2⟩ := draw_push I2' st2 dt2 (by omega) (by omega) (by omega) (by omega) (by omega) (x := e2)
 have gt2 := (st2.same p10 (by show p10 < u1.n; omega) (by omega)).trans gu1
 have gu2 := (fr2 p10 (by omega) (by omega) (by omega)).trans gu1
 have I3'' := I3'.mono (h' := u2.h) (n' := u2.n) (fun h => fr2 b3 h (by omega) (by omega)) (by omega)
 simp (disch := first|omega|(with_unfolding_all exact rfl)|(simp only[new_n,put_n,new_m];omega)|(refine put_m_le ?_;simp only[new_m];omega)) only [thenT_turn, Abs.W, reduceIte, Nat.reduceEqDiff, Nat.reduceAdd, decide_true, decide_false, kLoop_def, Nat.reduceSub, Env.find_set, l0, l10, l11, l12, l13, a2, gu2, Nat.zero_add]
 generalize hc3 : call _ _ _ (.fn 37) _ _ = r3
 obtain ⟨e3, t3, rfl, st3, dt3, w0, w1⟩ := true_ex hc3 (by omega) du2 (by omega) (by omega) (by omega) (by omega) (by omega)
 obtain ⟨u3, a3, A3, m7, m8, m9, du3, fr3, mm3, me3⟩ := push_plain I3'' st3 dt3 (by omega) (by omega) (by omega) (by omega) (by omega) (x := e3)
 simp (disch := first|omega|(with_unfolding_all exact rfl)|(simp only[new_n,put_n,new_m];omega)|(refine put_m_le ?_;simp only[new_m];omega)) only [Abs.W, reduceIte, Nat.reduceEqDiff, Nat.reduceAdd, decide_true, decide_false, kLoop_def, Nat.reduceSub, Env.find_set, l0, l10, l11, l12, l13, a3, Nat.zero_add]
 rw [endT_kept (l := [72]) (s' := t2) (by simp only [keptAll_cons, keptAll_nil, find_cons, keptV_ptr, gu1, gt2, sameO_cells, reduceIte, Nat.reduceEqDiff, Bool.and_self]), endT_kept (l := [65, 72]) (s' := t1) (by simp only [keptAll_cons, keptAll_nil, find_cons, keptV_ptr, g', gt1, sameO_cells, reduceIte, Nat.reduceEqDiff, Bool.and_self])]
 rw [endO_ok _ (by
  rw [endOk_cons, endOk_cons, endOk_cons, endOk_nil]
  all_goals
   simp only [find_cons, reduceIte, Nat.reduceEqDiff]
   first | exact ap1 _ | exact ap2 _)]
 simp (disch := first|omega|(with_unfolding_all exact rfl)|(simp only[new_n,put_n,new_m];omega)|(refine put_m_le ?_;simp only[new_m];omega)) only [K13r14, Abs.W, reduceIte, Nat.reduceEqDiff, Nat.reduceAdd, decide_true, decide_false, kLoop_def, Nat.reduceSub, Env.find_set, l14, ad, regD_ok]
 refine ⟨_, _, e1, e2, e3, _, _, _, t1.n + 1, t2.n + 1, t3.n + 1, rfl, fun t ht => ?_, ⟨?_, ?_, ?_⟩, ?_, ⟨⟨x0, x1⟩, ⟨y0, y1⟩, ⟨w0, w1⟩⟩, ⟨by omega, by omega, by omega⟩, ⟨by omega, by omega, by omega⟩, ⟨by omega, by omega, by omega⟩, A1.mono (fun h => (fr3 _ (by omega) (by omega) (by omega)).trans (fr2 _ (by omega) (by omega) (by omega))) (by omega), A2.mono (fun h => fr3 _ (by omega) (by omega) (by omega)) (by omega), A3, du3, fun c hc hcd hc1 hc2 hc3 => ?_, by omega, by omega, fun h => mm3 (mm2 (mm1 h)), by omega⟩
 ·rcases ht with rfl | rfl | rfl | rfl | rfl | rfl | rfl <;> simp only [Env.find_set, reduceIte, Nat.reduceEqDiff]
 ·simp only [Env.find_set, reduceIte, Nat.reduceEqDiff]
 ·simp only [Env.find_set, reduceIte, Nat.reduceEqDiff]
 ·simp only [Env.find_set, reduceIte, Nat.reduceEqDiff]
 ·simp only [Env.find_set, reduceIte, Nat.reduceEqDiff]
 ·rw [fr3 c (by omega) hcd hc3, fr2 c (by omega) hcd hc2, fr1 c hc hcd hc1]
theorem of_rows {N : Nat} {r : R} {cx : Ctx} {L : Env} {s : St} {B : Box} {d p10 z : Nat} (hours : Nat) (hr : loopN K13l1 rounds (call Try.prog X N) cx L [] s = r) (hN : 6 ≤ N) (okB : B.Ok) (hh5 : hours ≤ 500) (hd : Die d s.h) (hd10 : d < p10) (hp : p10 < s.n) (hs : s.n + 20000 ≤ far)
  (g : s.h.get p10 = some (.cells B.cells z)) (l0 : L.find 0 = .ptr d 0) (l2 : L.find 2 = .int .i64 hours) (l10 : L.find 10 = .ptr p10 0) (l11 : L.find 11 = .nilslice) (l12 : L.find 12 = .nilslice) (l13 : L.find 13 = .nilslice) (l14 : L.find 14 = .int .i64 0) :
  ∃ (L1 : Env) (s1 : St) (b1 b2 b3 : Nat) (x y w : List Int) (vx vy vw : AV), r = .done (.exit 4) L1 [] s1 ∧ (∀ t, t = 0 ∨ t = 2 ∨ t = 4 ∨ t = 6 ∨ t = 7 ∨ t = 9 ∨ t = 10 → L1.find t = L.find t) ∧ (L1.find 11 = vx ∧ L1.find 12 = vy ∧ L1.find 13 = vw) ∧ (x.length = hours ∧ y.length = hours ∧ w.length = hours) ∧
   ((∀ e ∈ x, B.ml ≤ e ∧ e ≤ B.mh) ∧ (∀ e ∈ y, B.cl ≤ e ∧ e ≤ B.ch) ∧ (∀ e ∈ w, B.wl ≤ e ∧ e ≤ B.wh)) ∧ (s.n ≤ b1 ∧ s.n ≤ b2 ∧ s.n ≤ b3) ∧ ((b1 ≠ b2 ∧ b1 ≠ b3 ∧ b2 ≠ b3) ∧ (b1 < s1.n ∨ far < b1) ∧ (b2 < s1.n ∨ far < b2) ∧ (b3 < s1.n ∨ far < b3)) ∧ IntsAt s1.h s1.n b1 x vx ∧ IntsAt s1.h s1.n b2 y vy ∧ IntsAt s1.h s1.n b3 w vw ∧ Die d s1.h ∧
   (∀ c, c < s.n → c ≠ d → s1.h.get c = s.h.get c) ∧ s.n ≤ s1.n ∧ s1.n ≤ s.n + 15 * hours ∧ (d ≤ s.m → d ≤ s1.m) ∧ s1.m ≤ s.m := by
 have hff : far = 1000000000 := rfl
 obtain ⟨e, L1, s1, rfl, rfl, b1, b2, b3, x, y, w, vx, vy, vw, h⟩ := loop_of hr
  (fun i L' t => L'.find 14 = .int .i64 i ∧ ∃ (b1 b2 b3 : Nat) (x y w : List Int) (vx vy vw : AV), (∀ t, t = 0 ∨ t = 2 ∨ t = 4 ∨ t = 6 ∨ t = 7 ∨ t = 9 ∨ t = 10 → L'.find t = L.find t) ∧ (L'.find 11 = vx ∧ L'.find 12 = vy ∧ L'.find 13 = vw) ∧ (x.length = i ∧ y.length = i ∧ w.length = i) ∧
   ((∀ e ∈ x, B.ml ≤ e ∧ e ≤ B.mh) ∧ (∀ e ∈ y, B.cl ≤ e ∧ e ≤ B.ch) ∧ (∀ e ∈ w, B.wl ≤ e ∧ e ≤ B.wh)) ∧ (s.n ≤ b1 ∧ s.n ≤ b2 ∧ s.n ≤ b3) ∧ ((b1 ≠ b2 ∧ b1 ≠ b3 ∧ b2 ≠ b3) ∧ (b1 < t.n ∨ far < b1) ∧ (b2 < t.n ∨ far < b2) ∧ (b3 < t.n ∨ far < b3)) ∧ IntsAt t.h t.n b1 x vx ∧ IntsAt t.h t.n b2 y vy ∧ IntsAt t.h t.n b3 w vw ∧ Die d t.h ∧
   (∀ c, c < s.n → c ≠ d → t.h.get c = s.h.get c) ∧ s.n ≤ t.n ∧ t.n ≤ s.n + 15 * i ∧ (d ≤ s.m → d ≤ t.m) ∧ t.m ≤ s.m)
  (fun e L1 s1 => e = .exit 4 ∧ ∃ (b1 b2 b3 : Nat) (x y w : List Int) (vx vy vw : AV), (∀ t, t = 0 ∨ t = 2 ∨ t = 4 ∨ t = 6 ∨ t = 7 ∨ t = 9 ∨ t = 10 → L1.find t = L.find t) ∧ (L1.find 11 = vx ∧ L1.find 12 = vy ∧ L1.find 13 = vw) ∧ (x.length = hours ∧ y.length = hours ∧ w.length = hours) ∧
   ((∀ e ∈ x, B.ml ≤ e ∧ e ≤ B.mh) ∧ (∀ e ∈ y, B.cl ≤ e ∧ e ≤ B.ch) ∧ (∀ e ∈ w, B.wl ≤ e ∧ e ≤ B.wh)) ∧ (s.n ≤ b1 ∧ s.n ≤ b2 ∧ s.n ≤ b3) ∧ ((b1 ≠ b2 ∧ b1 ≠ b3 ∧ b2 ≠ b3) ∧ (b1 < s1.n ∨ far < b1) ∧ (b2 < s1.n ∨ far < b2) ∧ (b3 < s1.n ∨ far < b3)) ∧ IntsAt s1.h s1.n b1 x vx ∧ IntsAt s1.h s1.n b2 y vy ∧ IntsAt s1.h s1.n b3 w vw ∧ Die d s1.h ∧
   (∀ c, c < s.n → c ≠ d → s1.h.get c = s.h.get c) ∧ s.n ≤ s1.n ∧ s1.n ≤ s.n + 15 * hours ∧ (d ≤ s.m → d ≤ s1.m) ∧ s1.m ≤ s.m)
  hours (by unfold rounds; omega) ⟨l14, far + 1, far + 2, far + 3, [], [], [], _, _, _, fun _ _ => rfl, ⟨l11, l12, l13⟩, ⟨rfl, rfl, rfl⟩, ⟨fun x hx => (by cases hx), fun x hx => (by cases hx), fun x hx => (by cases hx)⟩, ⟨by omega, by omega, by omega⟩, ⟨⟨by omega, by omega, by omega⟩, .inr (by omega), .inr (by omega), .inr (by omega)⟩, IsAt.nil _ _ _ _ _, IsAt.nil _ _ _ _ _, IsAt.nil _ _ _ _ _, hd, fun _ _ _ => rfl, Nat.le_refl _, Nat.le_refl _, fun h => h, Nat.le_refl _⟩
  (fun i L' t hi ⟨q14, b1, b2, b3, x, y, w, vx, vy, vw, q0, ⟨q11, q12, q13⟩, ⟨qx, qy, qw⟩, ⟨ex, ey, ew⟩, ⟨hb1, hb2, hb3⟩, ⟨⟨n12, n13, n23⟩, hf1, hf2, hf3⟩, I1, I2, I3, qd, qs, qn, qk, qm, qf⟩ => by
   have k2 := (q0 2 (by simp)).trans l2
   by_cases hlt : i < hours
   ·have gt := (qs p10 hp (by omega)).trans g
    obtain ⟨L1, s1, e1, e2, e3, ux, uy, uw, c1, c2, c3, w0, w1, w2, w3, ⟨⟨r1, r2⟩, ⟨r3, r4⟩, ⟨r5, r6⟩⟩, ⟨m1, m2, m3⟩, ⟨m4, m5, m6⟩, m7, A1, A2, A3, wd, wf, wn, wk, wm, wmm⟩ := of_rows_round N hN cx L' t B okB d p10 z b1 b2 b3 i hours x y w vx vy vw hlt hh5 qd hd10 (by omega) (by omega) (by omega) (by omega) (by omega) n12 n13 n23 hf1 hf2 hf3 qx qy qw I1 I2 I3 gt ((q0 0 (by simp)).trans l0) k2 ((q0 10 (by simp)).trans l10) q11 q12 q13 q14
    refine .inl ⟨hlt, L1, s1, w0, by rw [w3]; rfl, c1, c2, c3, x ++ [e1], y ++ [e2], w ++ [e3], ux, uy, uw, fun t ht => (w1 t ht).trans (q0 t ht), w2, ⟨by rw [List.length_append, qx]; rfl, by rw [List.length_append, qy]; rfl, by rw [List.length_append, qw]; rfl⟩, ⟨fun e he => ?_, fun e he => ?_, fun e he => ?_⟩, ⟨by omega, by omega, by omega⟩, ⟨m7, .inl m4, .inl m5, .inl m6⟩, A1, A2, A3, wd, fun c hc hcd => (wf c (by omega) hcd (by omega) (by omega) (by omega)).trans (qs c hc hcd), by omega, by omega, fun h => wm (qm h), by omega⟩
    ·rcases List.mem_append.mp he with h | h
     ·exact ex e h
     ·simp at h; rw [h]; exact ⟨r1, r2⟩
    ·rcases List.mem_append.mp he with h | h
     ·exact ey e h
     ·simp at h; rw [h]; exact ⟨r3, r4⟩
    ·rcases List.mem_append.mp he with h | h
     ·exact ew e h
     ·simp at h; rw [h]; exact ⟨r5, r6⟩
   ·obtain rfl : i = hours := by omega
    have e0 : decide ((i : Int) < (i : Int)) = false := by simp
    refine .inr ⟨.exit 4, L'.set 53 (.bool false), t, by simp, ?_, rfl, b1, b2, b3, x, y, w, vx, vy, vw, fun t ht => ?_, ⟨by simp only [Env.find_set, q11, reduceIte, Nat.reduceEqDiff], by simp only [Env.find_set, q12, reduceIte, Nat.reduceEqDiff], by simp only [Env.find_set, q13, reduceIte, Nat.reduceEqDiff]⟩, ⟨qx, qy, qw⟩, ⟨ex, ey, ew⟩, ⟨hb1, hb2, hb3⟩, ⟨⟨n12, n13, n23⟩, hf1, hf2, hf3⟩, I1, I2, I3, qd, qs, qn, qk, qm, qf⟩
    ·simp (disch := first|omega|(with_unfolding_all exact rfl)|(simp only[new_n,put_n,new_m];omega)|(refine put_m_le ?_;simp only[new_m];omega)) only [K13l1, K13r12, Abs.W, reduceIte, Nat.reduceEqDiff, Nat.reduceAdd, decide_true, decide_false, kLoop_def, Nat.reduceSub, Env.find_set, k2, q14, e0]
    ·rw [← q0 t ht]
     rcases ht with rfl | rfl | rfl | rfl | rfl | rfl | rfl <;> simp only [Env.find_set, reduceIte, Nat.reduceEqDiff])
 exact ⟨L1, s1, b1, b2, b3, x, y, w, vx, vy, vw, rfl, h⟩
end Go.Proofs.Ytndbihaffijhbaa.walk
set_option maxRecDepth 10000
namespace Go.Proofs.Ytndbihaffijhbaa.walk
open Go.Abs Go.Proofs.Ytndbihaffijhbaa.code
theorem of_box (N : Nat) (hN : 6 ≤ N) (cx : Ctx) (bs : List Box) (hl hh : Int) (v1 v2 v3 ve : AV) (d p4 p7 z3 z7 lo hours i ba bb bc bd : Nat) (T : Truth) (va vb vc vd : AV) (L : Env) (s : St) (hi : i < bs.length) (hk : bs.length ≤ 20) (hh1 : 1 ≤ hours) (hh5 : hours ≤ 500) (hd : Die d s.h) (hd4 : d < p4) (h47 : p4 < p7) (hp7 : p7 < lo) (hlo : lo ≤ s.n) (hs : s.n + 40000 ≤ far) (okb : (bs[i]).Ok) (hTi : T.ice.length = i)
  (hR : RowsAt s.h lo 9 (bs.map Box.cells) v1) (g3 : s.h.get p4 = some (.cells [.int .i64 hl, .int .i64 hh, v1, v2, v3] z3)) (U : TruthUp s.h s.n lo p7 z7 ve ba bb bc bd T va vb vc vd)
  (l0 : L.find 0 = .ptr d 0) (l2 : L.find 2 = .int .i64 hours) (l4 : L.find 4 = .ptr p4 0) (l7 : L.find 7 = .ptr p7 0) (l9 : L.find 9 = .int .i64 i) :
  ∃ (L1 : Env) (s1 : St) (ei : Int) (ba' bb' bc' bd' : Nat) (x y w : List Int) (va' vb' vc' vd' : AV), K13l2 (call Try.prog X N) cx L [] s = .done .norm L1 [] s1 ∧ (∀ t, t = 0 ∨ t = 2 ∨ t = 4 ∨ t = 6 ∨ t = 7 → L1.find t = L.find t) ∧ L1.find 9 = .int .i64 ((i : Int) + 1) ∧
   TruthUp s1.h s1.n lo p7 z7 ve ba' bb' bc' bd' (T.push ei x y w) va' vb' vc' vd' ∧ (x.length = hours ∧ y.length = hours ∧ w.length = hours) ∧
   ((bs[i]).il ≤ ei ∧ ei ≤ (bs[i]).ih) ∧ ((∀ e ∈ x, (bs[i]).ml ≤ e ∧ e ≤ (bs[i]).mh) ∧ (∀ e ∈ y, (bs[i]).cl ≤ e ∧ e ≤ (bs[i]).ch) ∧ (∀ e ∈ w, (bs[i]).wl ≤ e ∧ e ≤ (bs[i]).wh)) ∧ Die d s1.h ∧
   (∀ c, c < lo → c ≠ p7 → c ≠ d → s1.h.get c = s.h.get c) ∧ s.n ≤ s1.n ∧ s1.n ≤ s.n + 15 * hours + 30 ∧ (d ≤ s.m → d ≤ s1.m) ∧ s1.m ≤ s.m := by
 have hff : far = 1000000000 := rfl
 obtain ⟨g7, Iice, Tm, Tc, Tw, ⟨lo1, lo2, lo3, lo4⟩, ⟨w1, w2, w3, w4⟩, ⟨ne1, ne2, ne3, ne4, ne5, ne6⟩, ⟨len1, len2, len3⟩⟩ := U
 have fr : ∀ X, s.n ≤ X → X ≤ far → (X ≠ ba ∧ X ≠ bb) ∧ X ≠ bc ∧ X ≠ bd := fun X h1 h2 => by omega
 have nE : ∀ _ : Unit, (bb ≠ ba ∧ bc ≠ ba ∧ bd ≠ ba) ∧ bc ≠ bb ∧ bd ≠ bb ∧ bd ≠ bc := fun _ => by omega
 have hba : ∀ _ : Unit, ba < s.n + 1 ∨ far < ba := fun _ => w1.imp (fun h => by omega) id
 clear w1 w2 w3 w4 ne1 ne2 ne3 ne4 ne5 ne6
 have e0 : decide ((i : Int) < (bs.length : Int)) = true := decide_eq_true (by omega)
 have hlen := hR.len
 rw [List.length_map] at hlen
 have ok1 : ∀ t, okA (.val v1 t) = .val v1 t := fun t => okA_ne hR.ne
 obtain ⟨b, p, cc, sz, hbn, hix, hg, hcut⟩ := hR.at_ i (by simpa using hi)
 rw [List.getElem_map] at hcut
 generalize bs[i] = B at hcut okb ⊢
 -- the box
 obtain ⟨y0, hy⟩ : ∃ y0 : St, y0 = (s.new (.cells [.int .i64 0, .int .i64 0, .int .i64 0, .int .i64 0, .int .i64 0, .int .i64 0, .int .i64 0, .int .i64 0, .int .i64 0] (tag 74))).put s.n (.cells B.cells (tag 74)) := ⟨_, rfl⟩
 have yn : y0.n = s.n + 1 := by rw [hy]; rfl
 have ym : y0.m = min s.m s.n := by rw [hy]; simp only [St.put, minN_eq, new_m]
 have yg : ∀ c, c ≠ s.n → y0.h.get c = s.h.get c := fun c hc => by rw [hy, get_put_ne' _ _ _ _ hc, get_new_ne _ _ _ hc]
 have yB : y0.h.get s.n = some (.cells B.cells (tag 74)) := by rw [hy]; exact get_put_eq _ _ _ _ rfl (by omega)
 have y7 := (yg p7 (by omega)).trans g7
 have okva : ∀ t, okA (.val va t) = .val va t := fun t => okA_ne Iice.at_.ne
 have dy : Die d y0.h := by obtain ⟨f, hf⟩ := hd; exact ⟨f, by rw [yg _ (by omega)]; exact hf⟩
 have okb' := okb
 obtain ⟨o1, o2, o3, o4, o5, o6, o7, o8, o9, o10, o11, o12, o13⟩ := okb'
 have kl : K13l2 = kSeq (kSeq (kRegion K13r7 [34]) (kCond (.tmp 34) kSkip (kExit 2))) (kSeq (kBlock 3 (kSeq (kRegion K13r8 [10]) (kSeq (kRegionD K13r9 []) (kSeq (kRegion K13r10 [11, 12, 13]) (kSeq (kSeq (kRegion K13r11 [14]) (kBlock 4 (kLoop K13l1))) (kRegionD K13r15 [])))))) (kRegion K13r16 [9])) := rfl
 rw [kl]
 have hcB := hcut
 unfold Box.cells at hcB hy yB
 simp (disch := first|omega|(with_unfolding_all exact rfl)|(simp only[new_n,put_n,new_m];omega)|(refine put_m_le ?_;simp only[new_m];omega)) only [K13r7, K13r8, Abs.W, reduceIte, Nat.reduceEqDiff, Nat.reduceAdd, decide_true, decide_false, kLoop_def, Nat.reduceSub, Env.find_set, l0, l2, l4, l7, l9, g3, ok1, hlen, e0, hix, hg, hcB, Nat.zero_add]
 rw [← hy]
 simp (disch := first|omega|(with_unfolding_all exact rfl)|(simp only[new_n,put_n,new_m];omega)|(refine put_m_le ?_;simp only[new_m];omega)) only [K13r9, Abs.W, reduceIte, Nat.reduceEqDiff, Nat.reduceAdd, decide_true, decide_false, kLoop_def, Nat.reduceSub, Env.find_set, l0, l2, l4, l7, l9, y7, yB, okva, Nat.zero_add]
 generalize hc0 : call _ _ _ (.fn 37) _ _ = r0
 obtain ⟨ei, t0, rfl, st0, dt0, ei0, ei1⟩ := true_ex hc0 (by omega) dy (by show d < y0.n; omega) (by show y0.n + 600 ≤ far; omega) (by omega) (by omega) (by omega)
 obtain ⟨t1, a1, a2, a3, m0, m1, d1t, a4, a5, a6⟩ := draw_push (Iice.mono (h' := y0.h) (n' := y0.n) (fun h => yg _ (by omega)) (by omega)) st0 dt0 (by omega) (by omega) (yn ▸ hba ()) (by omega) (by omega) (x := ei)
 have t07 := (st0.same p7 (by show p7 < y0.n; omega) (by omega)).trans y7
 have t17 := (a4 p7 (by omega) (by omega) (by omega)).trans y7
 obtain ⟨t2, ht2⟩ : ∃ t2 : St, t2 = t1.put p7 (.cells [.slice (t0.n + 1) 0 ((ints T.ice).length + 1) ((ints T.ice).length + 1) true, vb, vc, vd, ve] z7) := ⟨_, rfl⟩
 have t2n : t2.n = t1.n := by rw [ht2]; rfl
 have t2m : t2.m = min t1.m p7 := by rw [ht2]; simp only [St.put, minN_eq]
 have t2g : ∀ c, c ≠ p7 → t2.h.get c = t1.h.get c := fun c hc => by rw [ht2, get_put_ne' _ _ _ _ hc]
 have t27 : t2.h.get p7 = some (.cells [.slice (t0.n + 1) 0 ((ints T.ice).length + 1) ((ints T.ice).length + 1) true, vb, vc, vd, ve] z7) := by rw [ht2]; exact get_put_eq _ _ _ _ rfl (by omega)
 have f2 : ∀ c, c < s.n → c ≠ ba → c ≠ p7 → c ≠ d → t2.h.get c = s.h.get c := fun c hc h1 h2 h3 => by
  rw [t2g c h2, a4 c (by omega) h3 h1, yg c (by omega)]
 have t2B : t2.h.get s.n = some (.cells B.cells (tag 74)) := by
  rw [t2g _ (by omega), a4 _ (by omega) (by omega) (fr _ (Nat.le_refl _) (by omega)).1.1]; exact yB
 have dt2 : Die d t2.h := by obtain ⟨f, hf⟩ := d1t; exact ⟨f, by rw [t2g _ (by omega)]; exact hf⟩
 simp (disch := first|omega|(with_unfolding_all exact rfl)|(simp only[new_n,put_n,new_m];omega)|(refine put_m_le ?_;simp only[new_m];omega)) only [thenT_turn, Abs.W, reduceIte, Nat.reduceEqDiff, Nat.reduceAdd, decide_true, decide_false, kLoop_def, Nat.reduceSub, Env.find_set, l7, a1, t17, Nat.zero_add]
 rw [← ht2]
 rw [endT_kept (by simp only [keptAll_cons, keptAll_nil, find_cons, Env.find_set, l7, keptV_ptr, y7, t07, sameO_cells, reduceIte, Nat.reduceEqDiff, Bool.and_self])]
 simp (disch := first|omega|(with_unfolding_all exact rfl)|(simp only[new_n,put_n,new_m];omega)|(refine put_m_le ?_;simp only[new_m];omega)) only [K13r10, K13r11, Abs.W, reduceIte, Nat.reduceEqDiff, Nat.reduceAdd, decide_true, decide_false, kLoop_def, Nat.reduceSub, Env.find_set, l0, l2, l4, l7, l9, endO_nil, regD_ok, Nat.zero_add, Nat.add_zero]
 -- its hours
 generalize hlp : loopN _ rounds _ _ _ _ _ = rl
 obtain ⟨L3, t3, b1, b2, b3, x, y, w, vx, vy, vw, rfl, lk, ⟨f11, f12, f13⟩, ⟨xl, yl, wl⟩, vals, ⟨hb1, hb2, hb3⟩, _, I1, I2, I3, dd3, fr3, n3, k3, m3, mf3⟩ := of_rows hours hlp hN okb hh5 dt2 (show d < s.n by omega) (by omega) (by omega) t2B (by simp only [Env.find_set, l0, reduceIte, Nat.reduceEqDiff]) (by simp only [Env.find_set, l2, reduceIte, Nat.reduceEqDiff]) (by simp only [Env.find_set, reduceIte, Nat.reduceEqDiff]) (by simp only [Env.find_set, reduceIte, Nat.reduceEqDiff]) (by simp only [Env.find_set, reduceIte, Nat.reduceEqDiff]) (by simp only [Env.find_set, reduceIte, Nat.reduceEqDiff]) (by simp only [Env.find_set, reduceIte, Nat.reduceEqDiff])
 have nonnil : ∀ l : List Int, l.length = hours → l ≠ [] := fun l h h2 => by rw [h2] at h; simp at h; omega
 have full : ∀ {b : Nat} {l : List Int} {v : AV}, IntsAt t3.h t3.n b l v → l.length = hours → b < t3.n ∧ v = .slice b 0 (ints l).length (ints l).length true := fun {b l v} I h => by
  rcases I.is with ⟨z, _⟩ | ⟨_, z1, z2, _⟩
  ·exact absurd (by simpa [ints] using z) (nonnil l h)
  ·exact ⟨z1, z2⟩
 obtain ⟨q1, rfl⟩ := full I1 xl
 obtain ⟨q2, rfl⟩ := full I2 yl
 obtain ⟨q3, rfl⟩ := full I3 wl
 have k1 : L3.find 2 = .int .i64 hours := (lk 2 (by simp)).trans (by simp only [Env.find_set, l2, reduceIte, Nat.reduceEqDiff])
 have k7 : L3.find 7 = .ptr p7 0 := (lk 7 (by simp)).trans (by simp only [Env.find_set, l7, reduceIte, Nat.reduceEqDiff])
 have k9 : L3.find 9 = .int .i64 i := (lk 9 (by simp)).trans (by simp only [Env.find_set, l9, reduceIte, Nat.reduceEqDiff])
 have t37 := (fr3 p7 (by omega) (by omega)).trans t27
 have f3 : ∀ c, c < s.n → c ≠ ba → c ≠ p7 → c ≠ d → t3.h.get c = s.h.get c := fun c hc h1 h2 h3 => (fr3 c (by omega) h3).trans (f2 c hc h1 h2 h3)
 have Ia : IntsAt t3.h t3.n (t0.n + 1) (T.ice ++ [ei]) (.slice (t0.n + 1) 0 ((ints T.ice).length + 1) ((ints T.ice).length + 1) true) := a2.mono (fun h => (fr3 _ (by omega) (by omega)).trans (t2g _ (by omega))) (by omega)
 have Tm3 := Tm.mono (h' := t3.h) (n' := t3.n) (no' := fun x => Rest lo ba bb bc bd x ∧ x < s.n) (fun h => f3 bb h (nE ()).1.1 (by omega) (by omega)) (fun x hx ⟨r1, r2, r3, r4, r5⟩ => ⟨f3 x hx r2 (by omega) (by omega), ⟨r1, r2, r3, r4, r5⟩, hx⟩) (by omega)
 have Tc3 := Tc.mono (h' := t3.h) (n' := t3.n) (no' := fun x => Rest lo ba bb bc bd x ∧ x < s.n) (fun h => f3 bc h (nE ()).1.2.1 (by omega) (by omega)) (fun x hx ⟨r1, r2, r3, r4, r5⟩ => ⟨f3 x hx r2 (by omega) (by omega), ⟨r1, r2, r3, r4, r5⟩, hx⟩) (by omega)
 have Tw3 := Tw.mono (h' := t3.h) (n' := t3.n) (no' := fun x => Rest lo ba bb bc bd x ∧ x < s.n) (fun h => f3 bd h (nE ()).1.2.2 (by omega) (by omega)) (fun x hx ⟨r1, r2, r3, r4, r5⟩ => ⟨f3 x hx r2 (by omega) (by omega), ⟨r1, r2, r3, r4, r5⟩, hx⟩) (by omega)
 obtain ⟨vsm, sm1, sm2, sm3⟩ := Tm3
 obtain ⟨vsc, sc1, sc2, sc3⟩ := Tc3
 obtain ⟨vsw, sw1, sw2, sw3⟩ := Tw3
 have okvb : ∀ t, okA (.val vb t) = .val vb t := fun t => okA_ne sm2.rows.at_.ne
 have okvc : ∀ t, okA (.val vc t) = .val vc t := fun t => okA_ne sc2.rows.at_.ne
 have okvd : ∀ t, okA (.val vd t) = .val vd t := fun t => okA_ne sw2.rows.at_.ne
 -- the three tables
 have hn4 : (t3.new (.cells [.slice b1 0 (ints x).length (ints x).length true] 0)).n = t3.n + 1 := rfl
 obtain ⟨t4, c1, c2, c3, c4, c5, c6⟩ := append_at (s := t3.new (.cells [.slice b1 0 (ints x).length (ints x).length true] 0)) (bytes := 24) (row := [.slice b1 0 (ints x).length (ints x).length true]) (sm2.mono (fun h => get_new_ne _ _ _ (by omega)) (Nat.le_succ _)) (get_new_eq _ _ _ rfl (by omega)) rfl rfl (by rw [List.length_map]; omega) (by kernel_rfl) (by omega)
 have f4 : ∀ c, c < t3.n → c ≠ bb → t4.h.get c = t3.h.get c := fun c hc h1 => (c4 c (by omega) h1).trans (get_new_ne _ _ _ (by omega))
 have t47 := (f4 p7 (by omega) (by omega)).trans t37
 have hn5 : (t4.new (.cells [.slice b2 0 (ints y).length (ints y).length true] 0)).n = t4.n + 1 := rfl
 obtain ⟨t5, d1, d2, d3, d4, d5, d6⟩ := append_at (s := t4.new (.cells [.slice b2 0 (ints y).length (ints y).length true] 0)) (bytes := 24) (row := [.slice b2 0 (ints y).length (ints y).length true]) (sc2.mono (n' := (t4.new (.cells [.slice b2 0 (ints y).length (ints y).length true] 0)).n) (fun h => (get_new_ne _ _ _ (by omega)).trans (f4 _ h (nE ()).2.1)) (by omega)) (get_new_eq _ _ _ rfl (by omega)) rfl rfl (by rw [List.length_map]; omega) (by kernel_rfl) (by omega)
 have f5 : ∀ c, c < t4.n → c ≠ bc → t5.h.get c = t4.h.get c := fun c hc h1 => (d4 c (by omega) h1).trans (get_new_ne _ _ _ (by omega))
 have t57 := (f5 p7 (by omega) (by omega)).trans t47
 have hn6 : (t5.new (.cells [.slice b3 0 (ints w).length (ints w).length true] 0)).n = t5.n + 1 := rfl
 obtain ⟨t6, e1, e2, e3, e4, e5, e6⟩ := append_at (s := t5.new (.cells [.slice b3 0 (ints w).length (ints w).length true] 0)) (bytes := 24) (row := [.slice b3 0 (ints w).length (ints w).length true]) (sw2.mono (n' := (t5.new (.cells [.slice b3 0 (ints w).length (ints w).length true] 0)).n) (fun h => (get_new_ne _ _ _ (by omega)).trans ((f5 _ (by omega) (nE ()).2.2.2).trans (f4 _ h (nE ()).2.2.1))) (by omega)) (get_new_eq _ _ _ rfl (by omega)) rfl rfl (by rw [List.length_map]; omega) (by kernel_rfl) (by omega)
 have f6 : ∀ c, c < t5.n → c ≠ bd → t6.h.get c = t5.h.get c := fun c hc h1 => (e4 c (by omega) h1).trans (get_new_ne _ _ _ (by omega))
 have t67 := (f6 p7 (by omega) (by omega)).trans t57
 have f36 : ∀ c, c < t3.n → c ≠ bb → c ≠ bc → c ≠ bd → t6.h.get c = t3.h.get c := fun c hc h1 h2 h3 => (f6 c (by omega) h3).trans ((f5 c (by omega) h2).trans (f4 c hc h1))
 have ap1 := fun o => sm2.apart (c := p7) (o := o) (by omega)
 have ap2 := fun o => sc2.apart (c := p7) (o := o) (by omega)
 have ad : ∀ s, aAdd s .i64 (i : Int) 1 = .val (.int .i64 ((i : Int) + 1)) s := fun s => aAdd_i64 s _ _ (by omega)
 simp (disch := first|omega|(with_unfolding_all exact rfl)|(simp only[new_n,put_n,new_m];omega)|(refine put_m_le ?_;simp only[new_m];omega)) only [K13r15, Abs.W, reduceIte, Nat.reduceEqDiff, Nat.reduceAdd, decide_true, decide_false, kLoop_def, Nat.reduceSub, Env.find_set, k7, k9, f11, f12, f13, t37, okvb, c1, t47, okvc, d1, t57, okvd, e1, t67, Nat.zero_add]
 rw [endO_ok _ (by
  rw [endOk_cons, endOk_cons, endOk_cons, endOk_nil]
  all_goals
   simp only [find_cons, reduceIte, Nat.reduceEqDiff]
   first | exact ap1 _ | exact ap2 _)]
 simp (disch := first|omega|(with_unfolding_all exact rfl)|(simp only[new_n,put_n,new_m];omega)|(refine put_m_le ?_;simp only[new_m];omega)) only [K13r16, Abs.W, reduceIte, Nat.reduceEqDiff, Nat.reduceAdd, decide_true, decide_false, kLoop_def, Nat.reduceSub, Env.find_set, k9, ad, regD_ok]
 generalize hz : St.put (St.put (St.put t6 p7 _) p7 _) p7 _ = t8
 have t8n : t8.n = t6.n := by rw [← hz]; rfl
 have t8m : t8.m = min (min (min t6.m p7) p7) p7 := by rw [← hz]; simp only [St.put, minN_eq]
 have t8g : ∀ c, c ≠ p7 → t8.h.get c = t6.h.get c := fun c hc => by rw [← hz, get_put_ne' _ _ _ _ hc, get_put_ne' _ _ _ _ hc, get_put_ne' _ _ _ _ hc]
 have t87 : t8.h.get p7 = some (.cells [.slice (t0.n + 1) 0 ((ints T.ice).length + 1) ((ints T.ice).length + 1) true, .slice (t3.n + 1) 0 ((vsm.map fun v => [v]).length + 1) ((vsm.map fun v => [v]).length + 1) true, .slice (t4.n + 1) 0 ((vsc.map fun v => [v]).length + 1) ((vsc.map fun v => [v]).length + 1) true, .slice (t5.n + 1) 0 ((vsw.map fun v => [v]).length + 1) ((vsw.map fun v => [v]).length + 1) true, ve] z7) := by rw [← hz]; exact get_put_eq _ _ _ _ rfl (by omega)
 clear hz
 have f8 : ∀ c, c < t3.n → c ≠ bb → c ≠ bc → c ≠ bd → c ≠ p7 → t8.h.get c = t3.h.get c := fun c hc h1 h2 h3 h4 => (t8g c h4).trans (f36 c hc h1 h2 h3)
 have R' : ∀ x, x < t3.n → Rest lo ba bb bc bd x → x ≠ t0.n + 1 → t8.h.get x = t3.h.get x ∧ Rest lo (t0.n + 1) (t3.n + 1) (t4.n + 1) (t5.n + 1) x := fun x hx ⟨r1, r2, r3, r4, r5⟩ hne => ⟨f8 x hx r3 r4 r5 (by omega), r1, hne, by omega, by omega, by omega⟩
 have row : ∀ {b : Nat} {l : List Int} {v : AV}, t2.n ≤ b → b < t3.n → IntsAt t3.h t3.n b l v → IntsAt t8.h t8.n b l v ∧ Rest lo (t0.n + 1) (t3.n + 1) (t4.n + 1) (t5.n + 1) b := fun {b l v} h1 h2 I =>
  ⟨I.mono (fun _ => f8 b h2 (fr b (by omega) (by omega)).1.2 (fr b (by omega) (by omega)).2.1 (fr b (by omega) (by omega)).2.2 (by omega)) (by omega), by omega, by omega, by omega, by omega, by omega⟩
 have old : ∀ {tab : List (List Int)} {vs : List AV}, (∀ j (h1 : j < vs.length) (h2 : j < tab.length), ∃ x, (Rest lo ba bb bc bd x ∧ x < s.n) ∧ IntsAt t3.h t3.n x tab[j] vs[j] ∧ tab[j] ≠ []) →
   ∀ j (h1 : j < vs.length) (h2 : j < tab.length), ∃ x, Rest lo (t0.n + 1) (t3.n + 1) (t4.n + 1) (t5.n + 1) x ∧ IntsAt t8.h t8.n x tab[j] vs[j] ∧ tab[j] ≠ [] := fun {tab vs} h j h1 h2 => by
  obtain ⟨x, ⟨x1, x2⟩, x3, x4⟩ := h j h1 h2
  obtain ⟨r1, r2⟩ := R' x (by omega) x1 (by omega)
  exact ⟨x, r2, x3.mono (fun _ => r1) (by omega), x4⟩
 obtain ⟨J1, N1⟩ := row hb1 q1 I1
 obtain ⟨J2, N2⟩ := row hb2 q2 I2
 obtain ⟨J3, N3⟩ := row hb3 q3 I3
 have c2' := c2.mono (h' := t8.h) (n' := t8.n) (fun _ => (t8g _ (by omega)).trans ((f6 _ (by omega) (fr _ (by omega) (by omega)).2.2).trans (f5 _ (by omega) (fr _ (by omega) (by omega)).2.1))) (by omega)
 have d2' := d2.mono (h' := t8.h) (n' := t8.n) (fun _ => (t8g _ (by omega)).trans (f6 _ (by omega) (fr _ (by omega) (by omega)).2.2)) (by omega)
 have e2' := e2.mono (h' := t8.h) (n' := t8.n) (fun _ => t8g _ (by omega)) (by omega)
 have Ia8 := Ia.mono (h' := t8.h) (n' := t8.n) (fun _ => f8 _ (by omega) (fr _ (by omega) (by omega)).1.2 (fr _ (by omega) (by omega)).2.1 (fr _ (by omega) (by omega)).2.2 (by omega)) (by omega)
 refine ⟨_, t8, ei, t0.n + 1, t3.n + 1, t4.n + 1, t5.n + 1, x, y, w, _, _, _, _, rfl, fun t ht => ?_, ?_, ⟨t87, Ia8, TabUp.push sm1 c2' (old sm3) N1 J1 (nonnil x xl), TabUp.push sc1 d2' (old sc3) N2 J2 (nonnil y yl), TabUp.push sw1 e2' (old sw3) N3 J3 (nonnil w wl), ⟨by omega, by omega, by omega, by omega⟩, ⟨.inl (by omega), .inl (by omega), .inl (by omega), .inl (by omega)⟩, ⟨by omega, by omega, by omega, by omega, by omega, by omega⟩, by simp [Truth.push, len1, len2, len3]⟩, ⟨xl, yl, wl⟩, ⟨ei0, ei1⟩, vals, ?_, fun c hc hcp hcd => ?_, by omega, by omega, fun hm => ?_, ?_⟩
 ·rcases ht with rfl | rfl | rfl | rfl | rfl <;> simp only [Env.find_set, reduceIte, Nat.reduceEqDiff]
  ·exact (lk 0 (by simp)).trans (by simp only [Env.find_set, reduceIte, Nat.reduceEqDiff])
  ·exact k1.trans l2.symm
  ·exact (lk 4 (by simp)).trans (by simp only [Env.find_set, reduceIte, Nat.reduceEqDiff])
  ·exact (lk 6 (by simp)).trans (by simp only [Env.find_set, reduceIte, Nat.reduceEqDiff])
  ·exact k7.trans l7.symm
 ·simp only [Env.find_set, reduceIte, Nat.reduceEqDiff]
 ·obtain ⟨f, hf⟩ := dd3
  exact ⟨f, by rw [f8 d (by omega) (by omega) (by omega) (by omega) (by omega)]; exact hf⟩
 ·rw [f8 c (by omega) (by omega) (by omega) (by omega) hcp]
  exact f3 c (by omega) (by omega) hcp hcd
 ·have h1 := a5 (by omega)
  have h2 := m3 (by omega)
  have h3 := c5 d (by omega) (by omega) (by rw [new_m]; exact h2)
  have h4 := d5 d (by omega) (by omega) (by rw [new_m]; exact h3)
  have h5 := e5 d (by omega) (by omega) (by rw [new_m]; exact h4)
  omega
 ·rw [new_m] at c6 d6 e6
  omega
end Go.Proofs.Ytndbihaffijhbaa.walk
set_option maxRecDepth 10000
namespace Go.Proofs.Ytndbihaffijhbaa.walk
open Go.Abs Go.Proofs.Ytndbihaffijhbaa.code
def RowsIn (bs : List Box) (hours : Nat) (f g : Box → Int) (tab : List (List Int)) : Prop := ∀ j (_ : j < tab.length), ∀ hb : j < bs.length, (tab[j]).length = hours ∧ ∀ e ∈ tab[j], f bs[j] ≤ e ∧ e ≤ g bs[j]
theorem RowsIn.push {bs : List Box} {hours : Nat} {f g : Box → Int} {tab : List (List Int)} (h : RowsIn bs hours f g tab) {row : List Int} (hl : row.length = hours) (hb : tab.length < bs.length) (hr : ∀ e ∈ row, f bs[tab.length] ≤ e ∧ e ≤ g bs[tab.length]) : RowsIn bs hours f g (tab ++ [row]) :=
 all_snoc (P := fun j (x : List Int) => ∀ hb : j < bs.length, x.length = hours ∧ ∀ e ∈ x, f bs[j] ≤ e ∧ e ≤ g bs[j]) h fun _ => ⟨hl, hr⟩
theorem of_boxes {N : Nat} {r : R} {cx : Ctx} {L : Env} {s : St} {bs : List Box} {hl hh : Int} {v1 v2 v3 ve : AV} {d p4 p7 z3 z7 n0 : Nat} (hours : Nat) (H : List Int) (hr : loopN K13l2 rounds (call Try.prog X N) cx L [] s = r) (hN : 6 ≤ N) (hok : ∀ b ∈ bs, b.Ok) (hk : bs.length ≤ 6) (hh1 : 1 ≤ hours) (hh5 : hours ≤ 500) (hd : Die d s.h) (hd0 : d < n0) (h47 : p4 < p7) (hp7 : p7 < s.n) (hn0 : n0 ≤ p4) (hs : s.n + 200000 ≤ far)
  (hR : RowsAt s.h s.n 9 (bs.map Box.cells) v1) (hRd : ∀ h : Heap, ∀ n : Nat, (∀ b, b < n0 → b ≠ d → h.get b = s.h.get b) → n0 ≤ n → RowsAt h n 9 (bs.map Box.cells) v1) (g3 : s.h.get p4 = some (.cells [.int .i64 hl, .int .i64 hh, v1, v2, v3] z3)) (g7 : s.h.get p7 = some (.cells [.nilslice, .nilslice, .nilslice, .nilslice, ve] z7))
  (l0 : L.find 0 = .ptr d 0) (l2 : L.find 2 = .int .i64 hours) (l4 : L.find 4 = .ptr p4 0) (l7 : L.find 7 = .ptr p7 0) (l9 : L.find 9 = .int .i64 0) :
  ∃ (L1 : Env) (s1 : St) (ba bb bc bd : Nat) (T : Truth) (va vb vc vd : AV), r = .done (.exit 2) L1 [] s1 ∧ (∀ t, t = 0 ∨ t = 2 ∨ t = 4 ∨ t = 6 ∨ t = 7 → L1.find t = L.find t) ∧ TruthUp s1.h s1.n s.n p7 z7 ve ba bb bc bd T va vb vc vd ∧ T.ice.length = bs.length ∧ T.hall = H ∧
   (∀ j (_ : j < T.ice.length), ∀ hb : j < bs.length, (bs[j]).il ≤ T.ice[j] ∧ T.ice[j] ≤ (bs[j]).ih) ∧ RowsIn bs hours Box.ml Box.mh T.melts ∧ RowsIn bs hours Box.cl Box.ch T.cold ∧ RowsIn bs hours Box.wl Box.wh T.warm ∧
   Die d s1.h ∧ (∀ c, c < s.n → c ≠ p7 → c ≠ d → s1.h.get c = s.h.get c) ∧ s.n ≤ s1.n ∧ s1.n ≤ s.n + 8000 * bs.length ∧ (d ≤ s.m → d ≤ s1.m) ∧ s1.m ≤ s.m := by
 have hff : far = 1000000000 := rfl
 obtain ⟨e, L1, s1, rfl, rfl, h⟩ := loop_of hr
  (fun i L' t => ∃ (ba bb bc bd : Nat) (T : Truth) (va vb vc vd : AV), (∀ t, t = 0 ∨ t = 2 ∨ t = 4 ∨ t = 6 ∨ t = 7 → L'.find t = L.find t) ∧ L'.find 9 = .int .i64 i ∧ TruthUp t.h t.n s.n p7 z7 ve ba bb bc bd T va vb vc vd ∧ T.ice.length = i ∧ T.hall = H ∧
   (∀ j (_ : j < T.ice.length), ∀ hb : j < bs.length, (bs[j]).il ≤ T.ice[j] ∧ T.ice[j] ≤ (bs[j]).ih) ∧ RowsIn bs hours Box.ml Box.mh T.melts ∧ RowsIn bs hours Box.cl Box.ch T.cold ∧ RowsIn bs hours Box.wl Box.wh T.warm ∧
   Die d t.h ∧ (∀ c, c < s.n → c ≠ p7 → c ≠ d → t.h.get c = s.h.get c) ∧ s.n ≤ t.n ∧ t.n ≤ s.n + 8000 * i ∧ (d ≤ s.m → d ≤ t.m) ∧ t.m ≤ s.m)
  (fun e L1 s1 => e = .exit 2 ∧ ∃ (ba bb bc bd : Nat) (T : Truth) (va vb vc vd : AV), (∀ t, t = 0 ∨ t = 2 ∨ t = 4 ∨ t = 6 ∨ t = 7 → L1.find t = L.find t) ∧ TruthUp s1.h s1.n s.n p7 z7 ve ba bb bc bd T va vb vc vd ∧ T.ice.length = bs.length ∧ T.hall = H ∧
   (∀ j (_ : j < T.ice.length), ∀ hb : j < bs.length, (bs[j]).il ≤ T.ice[j] ∧ T.ice[j] ≤ (bs[j]).ih) ∧ RowsIn bs hours Box.ml Box.mh T.melts ∧ RowsIn bs hours Box.cl Box.ch T.cold ∧ RowsIn bs hours Box.wl Box.wh T.warm ∧
   Die d s1.h ∧ (∀ c, c < s.n → c ≠ p7 → c ≠ d → s1.h.get c = s.h.get c) ∧ s.n ≤ s1.n ∧ s1.n ≤ s.n + 8000 * bs.length ∧ (d ≤ s.m → d ≤ s1.m) ∧ s1.m ≤ s.m)
  bs.length (by unfold rounds; omega)
  ⟨far + 1, far + 2, far + 3, far + 4, ⟨[], [], [], [], H⟩, _, _, _, _, fun _ _ => rfl, l9, ⟨g7, IsAt.nil _ _ _ _ _, TabUp.nil _ _ _ _, TabUp.nil _ _ _ _, TabUp.nil _ _ _ _, ⟨by omega, by omega, by omega, by omega⟩, ⟨.inr (by omega), .inr (by omega), .inr (by omega), .inr (by omega)⟩, ⟨by omega, by omega, by omega, by omega, by omega, by omega⟩, ⟨rfl, rfl, rfl⟩⟩, rfl, rfl,
   fun j h => absurd h (Nat.not_lt_zero j), fun j h => absurd h (Nat.not_lt_zero j), fun j h => absurd h (Nat.not_lt_zero j), fun j h => absurd h (Nat.not_lt_zero j), hd, fun _ _ _ _ => rfl, Nat.le_refl _, Nat.le_refl _, fun h => h, Nat.le_refl _⟩
  (fun i L' t hi ⟨ba, bb, bc, bd, T, va, vb, vc, vd, q0, q9, U, qT, qH, qi, qm, qc, qw, qd, qs, qn, qk, qmm, qf⟩ => by
   have g3t := (qs p4 (by omega) (by omega) (by omega)).trans g3
   have hRt : RowsAt t.h s.n 9 (bs.map Box.cells) v1 := hRd t.h s.n (fun b hb hbd => qs b (by omega) (by omega) hbd) (by omega)
   by_cases hlt : i < bs.length
   ·obtain ⟨L1, s1, ei, ba', bb', bc', bd', x, y, w, va', vb', vc', vd', p0, p1, p9, U', ⟨xl, yl, wl⟩, ⟨i0, i1⟩, ⟨ex, ey, ew⟩, dd, fr, n1, k1, m1, f1⟩ := of_box N hN cx bs hl hh v1 v2 v3 ve d p4 p7 z3 z7 s.n hours i ba bb bc bd T va vb vc vd L' t hlt (by omega) hh1 hh5 qd (by omega) h47 hp7 qn (by omega) (hok _ (List.getElem_mem hlt)) qT hRt g3t U ((q0 0 (by simp)).trans l0) ((q0 2 (by simp)).trans l2) ((q0 4 (by simp)).trans l4) ((q0 7 (by simp)).trans l7) q9
    obtain ⟨le1, le2, le3⟩ := U.len
    subst qT
    refine .inl ⟨hlt, L1, s1, p0, ba', bb', bc', bd', _, va', vb', vc', vd', fun q hq => (p1 q hq).trans (q0 q hq), by rw [p9]; rfl, U', by simp [Truth.push], qH, ?_, qm.push xl (by omega) (by simp only [le1]; exact ex), qc.push yl (by omega) (by simp only [le2]; exact ey), qw.push wl (by omega) (by simp only [le3]; exact ew), dd, fun c hc hcp hcd => (fr c hc hcp hcd).trans (qs c hc hcp hcd), by omega, by omega, fun hm => m1 (qmm hm), by omega⟩
    exact all_snoc (P := fun j (x : Int) => ∀ hb : j < bs.length, (bs[j]).il ≤ x ∧ x ≤ (bs[j]).ih) qi fun _ => ⟨i0, i1⟩
   ·obtain rfl : i = bs.length := by omega
    have e0 : decide ((bs.length : Int) < (bs.length : Int)) = false := by simp
    have hlen := hR.len
    rw [List.length_map] at hlen
    have ok1 : ∀ t, okA (.val v1 t) = .val v1 t := fun t => okA_ne hR.ne
    refine .inr ⟨.exit 2, L'.set 34 (.bool false), t, by simp, ?_, rfl, ba, bb, bc, bd, T, va, vb, vc, vd, fun t ht => ?_, U, qT, qH, qi, qm, qc, qw, qd, qs, qn, qk, qmm, qf⟩
    ·simp (disch := first|omega|(with_unfolding_all exact rfl)|(simp only[new_n,put_n,new_m];omega)|(refine put_m_le ?_;simp only[new_m];omega)) only [K13l2, K13r7, Abs.W, reduceIte, Nat.reduceEqDiff, Nat.reduceAdd, decide_true, decide_false, kLoop_def, Nat.reduceSub, Env.find_set, (q0 4 (by simp)).trans l4, q9, g3t, ok1, hlen, e0, Nat.zero_add]
    ·rw [← q0 t ht]
     rcases ht with rfl | rfl | rfl | rfl | rfl <;> simp only [Env.find_set, reduceIte, Nat.reduceEqDiff])
 obtain ⟨ba, bb, bc, bd, T, va, vb, vc, vd, h⟩ := h
 exact ⟨L1, s1, ba, bb, bc, bd, T, va, vb, vc, vd, rfl, h⟩
end Go.Proofs.Ytndbihaffijhbaa.walk
set_option maxRecDepth 10000
namespace Go.Proofs.Ytndbihaffijhbaa.walk
open Go.Abs Go.Proofs.Ytndbihaffijhbaa.code
theorem tabIn_of {bs : List Box} {hours : Nat} {tab : List (List Int)} {f g : Box → Int} {lo hi : Nat → Int} (h : RowsIn bs hours f g tab) (hl : tab.length = bs.length) (he : ∀ j (hj : j < bs.length), lo j = f bs[j] ∧ hi j = g bs[j]) : TabIn tab bs.length hours lo hi :=
 ⟨hl, fun b hb => by
  have hb' : b < bs.length := by omega
  obtain ⟨h1, h2⟩ := h b hb hb'
  obtain ⟨e1, e2⟩ := he b hb'
  exact ⟨h1, fun x hx => by rw [e1, e2]; exact h2 x hx⟩⟩
theorem truthOf_ex {N d lo n0 : Nat} {s : St} {r : ARes} {v1 v2 v3 : AV} (c : Cellar) (ok : c.Ok) (hours : Nat) (hr : call Try.prog X N (.fn 13) [.ptr d 0, .agg [.int .i64 c.hl, .int .i64 c.hh, v1, v2, v3], .int .i64 hours] s = r) (hN : 7 ≤ N) (hd : Die d s.h) (hdl : d < lo) (hln : lo ≤ n0) (hn0 : n0 ≤ s.n) (hC : CellarNew s.h lo n0 c v1 v2 v3) (hh1 : 1 ≤ hours) (hh5 : hours ≤ 500) (hs : s.n + 300000 ≤ far) :
  ∃ (T : Truth) (va vb vc vd ve : AV) (t : St), r = .val (.agg [va, vb, vc, vd, ve]) t ∧ Stir d s t 60000 ∧ Die d t.h ∧ TruthAt t.h t.n T va vb vc vd ve ∧ T.In c hours ∧ va.scalar = true ∧ vb.scalar = true ∧ vc.scalar = true ∧ vd.scalar = true ∧ ve.scalar = true := by
 obtain ⟨n, rfl⟩ : ∃ n, N = n + 1 := ⟨N - 1, by omega⟩
 have hff : far = 1000000000 := rfl
 obtain ⟨v, t, e, st, T, va, vb, vc, vd, ve, rfl, hq⟩ := call_stir (n := n) (args := [.ptr d 0, .agg [.int .i64 c.hl, .int .i64 c.hh, v1, v2, v3], .int .i64 hours]) (s := s) (d := d) (k := 60000)
  (Q := fun v h m => ∃ (T : Truth) (va vb vc vd ve : AV), v = .agg [va, vb, vc, vd, ve] ∧ Die d h ∧ TruthAt h m T va vb vc vd ve ∧ T.In c hours ∧ va.scalar = true ∧ vb.scalar = true ∧ vc.scalar = true ∧ vd.scalar = true ∧ ve.scalar = true) Try.func13 rfl (fun u uh un um => by
  rw [← uh] at hC hd
  rw [← un] at hn0 hs
  have sh : shapeT Try.prog 46 = some (some 5) := by kernel_rfl
  obtain ⟨w, hw⟩ : ∃ w : St, w = (u.new (.cells [.int .i64 c.hl, .int .i64 c.hh, v1, v2, v3] (tag 31))).new (.cells [.nilslice, .nilslice, .nilslice, .nilslice, .nilslice] (tag 46)) := ⟨_, rfl⟩
  have wn : w.n = u.n + 2 := by rw [hw]; rfl
  have wm : w.m = far := by rw [hw]; exact um
  have wg : ∀ c, c < u.n → w.h.get c = u.h.get c := fun c hc => by rw [hw, get_new_ne _ _ _ (by simp only [new_n]; omega), get_new_ne _ _ _ (by omega)]
  have w0 : w.h.get u.n = some (.cells [.int .i64 c.hl, .int .i64 c.hh, v1, v2, v3] (tag 31)) := by
   rw [hw, get_new_ne _ _ _ (by simp only [new_n]; omega)]; exact get_new_eq _ _ _ rfl (by omega)
  have w1 : w.h.get (u.n + 1) = some (.cells [.nilslice, .nilslice, .nilslice, .nilslice, .nilslice] (tag 46)) := by rw [hw]; exact get_new_eq _ _ _ rfl (by simp only [new_n]; omega)
  have nn1 : ∀ o, (u.new o).n = u.n + 1 := fun _ => rfl
  obtain ⟨y, hy⟩ : ∃ y : St, y = (w.new (.cells [.nilslice, .nilslice, .nilslice, .nilslice, .nilslice] (tag 46))).put w.n (.cells [.nilslice, .nilslice, .nilslice, .nilslice, .nilslice] (tag 46)) := ⟨_, rfl⟩
  have yn : y.n = w.n + 1 := by rw [hy]; rfl
  have ym : y.m = min w.m w.n := by rw [hy]; simp only [St.put, minN_eq, new_m]
  have yg : ∀ c, c ≠ w.n → y.h.get c = w.h.get c := fun c hc => by rw [hy, get_put_ne' _ _ _ _ hc, get_new_ne _ _ _ hc]
  have y7 : y.h.get w.n = some (.cells [.nilslice, .nilslice, .nilslice, .nilslice, .nilslice] (tag 46)) := by rw [hy]; exact get_put_eq _ _ _ _ rfl (by omega)
  have y3 := (yg u.n (by omega)).trans w0
  have dy : Die d y.h := by obtain ⟨f, hf⟩ := hd; exact ⟨f, by rw [yg _ (by omega), wg _ (by omega)]; exact hf⟩
  have h0 := ok.h0
  have h1 := ok.h1
  have h2 := ok.h2
  rw [enter13]
  simp (disch := first|omega|(with_unfolding_all exact rfl)|(simp only[new_n,put_n,new_m];omega)|(refine put_m_le ?_;simp only[new_m];omega)) only [res13, K13, K13r0, Abs.W, reduceIte, Nat.reduceEqDiff, Nat.reduceAdd, decide_true, decide_false, kLoop_def, Nat.reduceSub, nn1]
  rw [← hw]
  simp (disch := first|omega|(with_unfolding_all exact rfl)|(simp only[new_n,put_n,new_m];omega)|(refine put_m_le ?_;simp only[new_m];omega)) only [K13r1, K13r2, Abs.W, reduceIte, Nat.reduceEqDiff, Nat.reduceAdd, decide_true, decide_false, kLoop_def, Nat.reduceSub, Env.find_set]
  rw [← hy]
  generalize hl1 : loopN _ rounds _ _ _ _ _ = q1
  obtain ⟨L1, t1, be, H, ve, rfl, lk1, Hl, Hv, hbe, IH, g1, d1, fr1, n1, k1, m1, f1⟩ := of_hall hours hl1 (by omega) hh5 dy (show d < u.n by omega) (show u.n < w.n by omega) (by omega) (by omega) y3 y7 (by omega) (by omega) (by omega) (by simp only [find_cons, Env.find_set, reduceIte, Nat.reduceEqDiff]) (by simp only [find_cons, Env.find_set, reduceIte, Nat.reduceEqDiff]) (by simp only [find_cons, Env.find_set, reduceIte, Nat.reduceEqDiff]) (by simp only [find_cons, Env.find_set, reduceIte, Nat.reduceEqDiff]) (by simp only [find_cons, Env.find_set, reduceIte, Nat.reduceEqDiff])
  have j0 : L1.find 0 = .ptr d 0 := (lk1 0 (by simp)).trans (by simp only [find_cons, Env.find_set, reduceIte, Nat.reduceEqDiff])
  have j2 : L1.find 2 = .int .i64 hours := (lk1 2 (by simp)).trans (by simp only [find_cons, Env.find_set, reduceIte, Nat.reduceEqDiff])
  have j4 : L1.find 4 = .ptr u.n 0 := (lk1 4 (by simp)).trans (by simp only [find_cons, Env.find_set, reduceIte, Nat.reduceEqDiff])
  have j6 : L1.find 6 = .ptr (u.n + 1) 0 := (lk1 6 (by simp)).trans (by simp only [find_cons, Env.find_set, reduceIte, Nat.reduceEqDiff])
  have j7 : L1.find 7 = .ptr w.n 0 := (lk1 7 (by simp)).trans (by simp only [find_cons, Env.find_set, reduceIte, Nat.reduceEqDiff])
  clear lk1
  simp (disch := first|omega|(with_unfolding_all exact rfl)|(simp only[new_n,put_n,new_m];omega)|(refine put_m_le ?_;simp only[new_m];omega)) only [K13r6, Abs.W, reduceIte, Nat.reduceEqDiff, Nat.reduceAdd, decide_true, decide_false, kLoop_def, Nat.reduceSub, Env.find_set]
  generalize hl2 : loopN _ rounds _ _ _ _ _ = q2
  have lowc : ∀ b, b < n0 → b ≠ d → t1.h.get b = u.h.get b := fun b hb hbd => (fr1 b (by omega) (by omega) hbd).trans ((yg b (by omega)).trans (wg b (by omega)))
  have hRd : ∀ h : Heap, ∀ n : Nat, (∀ b, b < n0 → b ≠ d → h.get b = t1.h.get b) → n0 ≤ n → RowsAt h n 9 (c.boxes.map Box.cells) v1 := fun h n hh hn => (hC.b.mono (fun b hb hbn => (hh b hbn (by omega)).trans (lowc b hbn (by omega))) hn).at_
  obtain ⟨L2, t2, ba, bb, bc, bd, T, va, vb, vc, vd, rfl, lk2, U, Ti, TH, vi, vm, vcc, vw, d2, fr2, n2, k2, m2, f2⟩ := of_boxes (n0 := n0) hours H hl2 (by omega) ok.bok ok.b hh1 hh5 d1 (by omega) (show u.n < w.n by omega) (by omega) (by omega) (by omega) (hRd t1.h t1.n (fun _ _ _ => rfl) (by omega)) hRd ((fr1 u.n (by omega) (by omega) (by omega)).trans y3) g1 (by simp only [Env.find_set, j0, reduceIte, Nat.reduceEqDiff]) (by simp only [Env.find_set, j2, reduceIte, Nat.reduceEqDiff]) (by simp only [Env.find_set, j4, reduceIte, Nat.reduceEqDiff]) (by simp only [Env.find_set, j7, reduceIte, Nat.reduceEqDiff]) (by simp only [Env.find_set, reduceIte, Nat.reduceEqDiff])
  have i6 : L2.find 6 = .ptr (u.n + 1) 0 := (lk2 6 (by simp)).trans (by simp only [Env.find_set, j6, reduceIte, Nat.reduceEqDiff])
  have i7 : L2.find 7 = .ptr w.n 0 := (lk2 7 (by simp)).trans (by simp only [Env.find_set, j7, reduceIte, Nat.reduceEqDiff])
  clear lk2
  have bl := ok.b
  have g7 := U.g7
  have low : ∀ c, c < w.n → c ≠ d → t2.h.get c = w.h.get c := fun c hc hcd => (fr2 c (by omega) (by omega) hcd).trans ((fr1 c (by omega) (by omega) hcd).trans (yg c (by omega)))
  have g6 := (low (u.n + 1) (by omega) (by omega)).trans w1
  have sa := at_scal U.ice
  have sb := tab_scal U.melts
  have sc := tab_scal U.cold
  have sd := tab_scal U.warm
  have se := at_scal IH
  have pe : plain ve = false := by
   rcases IH.is with ⟨z, _⟩ | ⟨_, _, z, _⟩
   ·have : H.length = 0 := by simpa [ints] using z
    omega
   ·rw [z]; rfl
  have sall : scalars [va, vb, vc, vd, ve] = true := by rw [scal_cons _ _ sa, scal_cons _ _ sb, scal_cons _ _ sc, scal_cons _ _ sd, scal_cons _ _ se]; rfl
  simp (disch := first|omega|(with_unfolding_all exact rfl)|(simp only[new_n,put_n,new_m];omega)|(refine put_m_le ?_;simp only[new_m];omega)) only [K13r17, Abs.W, reduceIte, Nat.reduceEqDiff, Nat.reduceAdd, decide_true, decide_false, kLoop_def, Nat.reduceSub, Env.find_set, i6, i7, g7, g6, sall, Nat.zero_add]
  obtain ⟨fin, hfin⟩ : ∃ fin : St, fin = t2.put (u.n + 1) (.cells [va, vb, vc, vd, ve] (tag 46)) := ⟨_, rfl⟩
  have finn : fin.n = t2.n := by rw [hfin]; rfl
  have finm : fin.m = min t2.m (u.n + 1) := by rw [hfin]; simp only [St.put, minN_eq]
  have fing : ∀ c, c ≠ u.n + 1 → fin.h.get c = t2.h.get c := fun c hc => by rw [hfin, get_put_ne' _ _ _ _ hc]
  have IH2 : IntsAt t2.h t2.n be H ve := IH.mono (fun h => fr2 be h (by omega) (by omega)) (by omega)
  have hTA : TruthAt fin.h fin.n T va vb vc vd ve := by
   have F : ∀ x, x < t2.n → Rest t1.n ba bb bc bd x → fin.h.get x = t2.h.get x ∧ Rest t1.n ba bb bc bd x := fun x hx r => ⟨fing x (by have := r.1; omega), r⟩
   obtain ⟨lo1, lo2, lo3, lo4⟩ := U.lo
   refine ⟨IntsAt.at_ (U.ice.mono (fun h => fing ba (by omega)) (by omega)), (U.melts.mono (fun h => fing bb (by omega)) F (by omega)).tab, (U.cold.mono (fun h => fing bc (by omega)) F (by omega)).tab, (U.warm.mono (fun h => fing bd (by omega)) F (by omega)).tab, ?_⟩
   rw [TH]
   exact (IntsAt.at_ (IH2.mono (fun h => fing be (by omega)) (by omega)))
  have hTI : T.In c hours := by
   obtain ⟨le1, le2, le3⟩ := U.len
   have bx : ∀ j (hj : j < c.boxes.length), c.box j = c.boxes[j] := fun j hj => c.box_eq hj
   refine ⟨Ti, fun b hb => ?_, ?_, ?_, ?_, by rw [TH]; exact Hl, fun x hx => ?_⟩
   ·rw [bx b (by omega)]; exact vi b hb (by omega)
   ·exact tabIn_of vm (by omega) fun j hj => by rw [bx j hj]; exact ⟨rfl, rfl⟩
   ·exact tabIn_of vcc (by omega) fun j hj => by rw [bx j hj]; exact ⟨rfl, rfl⟩
   ·exact tabIn_of vw (by omega) fun j hj => by rw [bx j hj]; exact ⟨rfl, rfl⟩
   ·rw [TH] at hx
    exact Hv x hx
  rw [← hfin]
  refine ⟨.agg [va, vb, vc, vd, ve], fin, leave_cell _ _ _ _ sh ?_, ⟨fun c hc hcd => ?_, by omega, by omega, fun h => ?_, by omega⟩, ?_, T, va, vb, vc, vd, ve, rfl, ?_, hTA, hTI, sa, sb, sc, sd, se⟩
  ·rw [i6, load_ptr, hfin, get_put_eq _ _ _ _ rfl (by omega)]
   simp (disch := first|omega|(with_unfolding_all exact rfl)|(simp only[new_n,put_n,new_m];omega)|(refine put_m_le ?_;simp only[new_m];omega)) only [Abs.W, reduceIte, Nat.reduceEqDiff, Nat.reduceAdd, decide_true, decide_false, kLoop_def, Nat.reduceSub, okA_agg]
  ·rw [fing c (by omega), low c (by omega) hcd, wg c hc]
  ·have h1 := m1 (by omega)
   have h2 := m2 h1
   omega
  ·cases hp : plain (.agg [va, vb, vc, vd, ve]) with
   | false => rfl
   | true =>
    have := plains_mem (l := [va, vb, vc, vd, ve]) (v := ve) hp (by simp)
    rw [pe] at this; cases this
  ·obtain ⟨f, hf⟩ := d2
   exact ⟨f, by rw [fing d (by omega)]; exact hf⟩) (by omega)
 obtain ⟨hd', hA, hI, h1, h2, h3, h4, h5⟩ := hq
 exact ⟨T, va, vb, vc, vd, ve, t, hr.symm.trans e, st, hd', hA, hI, h1, h2, h3, h4, h5⟩
end Go.Proofs.Ytndbihaffijhbaa.walk
set_option maxRecDepth 10000
namespace Go.Abs
theorem keptV_of_rows {h h' : Heap} {lo n w tg : Nat} {rows : List (List AV)} {v : AV} (r : Rows h lo n w tg rows v) (hh : ∀ b, lo ≤ b → b < n → h'.get b = h.get b) : keptV h h' v = true := by
 rcases r.is with ⟨_, h2⟩ | ⟨b, h0, h1, h2, h3⟩
 ·subst h2; exact keptV_nils h h'
 ·subst h2; rw [keptV_slice, hh b h0 h1, h3, sameO_cells]
end Go.Abs
namespace Go.Proofs.Ytndbihaffijhbaa.walk
open Go.Abs Go.Proofs.Ytndbihaffijhbaa.code
end Go.Proofs.Ytndbihaffijhbaa.walk
set_option maxRecDepth 10000
namespace Go.Proofs.Ytndbihaffijhbaa.walk
open Go.Abs Go.Proofs.Ytndbihaffijhbaa.code
theorem holds_ok (N : Nat) (hN : 1 ≤ N) (a b x : Int) (s : St) (h0 : a ≤ x) (h1 : x ≤ b) (hs : s.n + 100 ≤ far) : call Try.prog X N (.fn 15) [.agg [.int .i64 a, .int .i64 b], .int .i64 x] s = .val (.bool true) s := by
 obtain ⟨n, rfl⟩ : ∃ n, N = n + 1 := ⟨N - 1, by omega⟩
 refine call_plain' Try.func15 (fun u uh un um => ?_) rfl
 have hff : far = 1000000000 := rfl
 have e0 : decide (a ≤ x) = true := decide_eq_true h0
 have e1 : decide (x ≤ b) = true := decide_eq_true h1
 rw [enter15]
 simp (disch := first|omega|(with_unfolding_all exact rfl)|(simp only[new_n,put_n,new_m];omega)|(refine put_m_le ?_;simp only[new_m];omega)) only [res15, K15r0, K15r1s9, K15r1s8, K15r1s7, K15r1s6, K15r1, K15, Abs.W, reduceIte, Nat.reduceEqDiff, Nat.reduceAdd, decide_true, decide_false, kLoop_def, Nat.reduceSub, e0, e1, Nat.zero_add, Nat.add_zero]
 exact ⟨_, rfl, by simp only [new_m]; omega⟩
noncomputable def trueTail : K := kSeq (kSeq (kRegion K3r15 [95]) (kCond (.tmp 95) (kExit 1) kSkip)) (kSeq (kRegion K3r16 [15, 16]) (kSeq (kRegion K3r17 [17, 18]) (kSeq (kRegionD K3r18 [19]) (kSeq (kRegion K3r19 [151]) (kCond (.tmp 151) (kSeq (kRegion K3r20 [2]) kRet) kSkip)))))
noncomputable def trueBody : K := kSeq (kRegion K3r11 [13]) (kSeq (kRegion K3r12 [14]) (kSeq (kSeq (kRegion K3r13 [91]) (kCond (.tmp 91) (kSeq (kRegion K3r14 [2]) kRet) kSkip)) trueTail))
end Go.Proofs.Ytndbihaffijhbaa.walk
set_option maxRecDepth 10000
namespace Go.Proofs.Ytndbihaffijhbaa.walk
open Go.Abs Go.Proofs.Ytndbihaffijhbaa.code
theorem true_first (n : Nat) (hn : 13 ≤ n) (cx : Ctx) (L : Env) (s : St) (c : Cellar) (ok : c.Ok) (l : Lot) (okl : l.Ok c.boxes.length) (v1 v2 v3 v4 : AV) (d lo n0 n1 p4 p5 p8 z8 k m : Nat) (V : Int) (hV : V = (if (c.lost l m).2 ≤ l.keeps then 1 else if (c.lost l m).1 ≤ l.keeps then 3 else 2)) (hk : k ≤ 50) (hm : (k : Int) = l.born + m) (hs : s.n + 800000 ≤ far) (hd : Die d s.h) (hdl : d < lo) (hln : lo ≤ n0) (hn0 : n0 ≤ s.n) (hn1 : n1 ≤ s.n) (hp4 : p4 < s.n) (hp5 : p5 < s.n) (hp8 : p8 < s.n) (hd4 : p4 ≠ d) (hd5 : p5 ≠ d) (hd8 : p8 ≠ d)
  (hC : CellarNew s.h lo n0 c v1 v2 v3) (hR : Abs.Rows s.h lo n1 3 (tag 80) (l.stays.map Stay.cells) v4) (g4 : s.h.get p4 = some (.cells [.int .i64 c.hl, .int .i64 c.hh, v1, v2, v3] (tag 31))) (g5 : s.h.get p5 = some (.cells [.int .i64 l.born, .int .i64 l.keeps, v4] (tag 35))) (g8 : s.h.get p8 = some (.cells [.int .i64 (c.lost l m).1, .int .i64 (c.lost l m).2] z8))
  (l3 : L.find 3 = .ptr d 0) (l4 : L.find 4 = .ptr p4 0) (l5 : L.find 5 = .ptr p5 0) (l6 : L.find 6 = .int .i64 k) (l8 : L.find 8 = .ptr p8 0) (l10 : L.find 10 = .int .i64 V) :
  ∃ (L2 : Env) (s2 : St) (T : Truth) (va vb vc vd ve : AV) (p13 z13 : Nat), trueBody (knows 19 (call Try.prog X n)) cx L [] s = trueTail (knows 19 (call Try.prog X n)) cx L2 [] s2 ∧ (∀ t, t = 3 ∨ t = 4 ∨ t = 5 ∨ t = 6 ∨ t = 7 ∨ t = 8 ∨ t = 9 ∨ t = 10 ∨ t = 11 ∨ t = 12 → L2.find t = L.find t) ∧ L2.find 13 = .ptr p13 0 ∧ p13 < s2.n ∧ s2.h.get p13 = some (.cells [va, vb, vc, vd, ve] z13) ∧ TruthAt s2.h s2.n T va vb vc vd ve ∧ T.In c 51 ∧ Die d s2.h ∧
   (∀ c, c < s.n → c ≠ d → s2.h.get c = s.h.get c) ∧ s.n ≤ s2.n ∧ s2.n ≤ s.n + 60010 := by
 have hff : far = 1000000000 := rfl
 have knT : ∀ args s, knows 19 (call Try.prog X n) (.fn 13) args s = call Try.prog X n (.fn 13) args s := fun _ _ => rfl
 have knY : ∀ args s, knows 19 (call Try.prog X n) (.fn 14) args s = call Try.prog X n (.fn 14) args s := fun _ _ => rfl
 have knH : ∀ args s, knows 19 (call Try.prog X n) (.fn 15) args s = call Try.prog X n (.fn 15) args s := fun _ _ => rfl
 have b0 := okl.b0
 unfold trueBody
 simp (disch := first|omega|(with_unfolding_all exact rfl)|(simp only[new_n,put_n,new_m];omega)|(refine put_m_le ?_;simp only[new_m];omega)) only [K3r11, Abs.W, reduceIte, Nat.reduceEqDiff, Nat.reduceAdd, decide_true, decide_false, kLoop_def, Nat.reduceSub, Env.find_set, l3, l4, g4, knT, Nat.zero_add]
 generalize hc1 : call _ _ _ (.fn 13) _ _ = r1
 obtain ⟨T, va, vb, vc, vd, ve, t1, rfl, st1, d1, A, I, sa, sb, sc, sd, se⟩ := truthOf_ex c ok 51 hc1 (by omega) hd hdl hln hn0 hC (by omega) (by omega) (by omega)
 have m1 : s.n ≤ t1.n := st1.n
 have k1 : t1.n ≤ s.n + 60000 := st1.le
 have sall : scalars [va, vb, vc, vd, ve] = true := by rw [scal_cons _ _ sa, scal_cons _ _ sb, scal_cons _ _ sc, scal_cons _ _ sd, scal_cons _ _ se]; rfl
 simp (disch := first|omega|(with_unfolding_all exact rfl)|(simp only[new_n,put_n,new_m];omega)|(refine put_m_le ?_;simp only[new_m];omega)) only [Abs.W, reduceIte, Nat.reduceEqDiff, Nat.reduceAdd, decide_true, decide_false, kLoop_def, Nat.reduceSub, Env.find_set, sall]
 generalize hx : St.put (St.new t1 _) t1.n _ = x
 have xn : x.n = t1.n + 1 := by rw [← hx]; rfl
 have xg : ∀ c, c < t1.n → x.h.get c = t1.h.get c := fun c hc => by rw [← hx, get_put_ne' _ _ _ _ (by omega), get_new_ne _ _ _ (by omega)]
 have x13 : x.h.get t1.n = some (.cells [va, vb, vc, vd, ve] (tag 46)) := by rw [← hx]; exact get_put_eq _ _ _ _ rfl (by omega)
 clear hx
 have fr : ∀ c, c < s.n → c ≠ d → x.h.get c = s.h.get c := fun c hc hcd => (xg c (by omega)).trans (st1.same c hc hcd)
 have x4 := (fr p4 hp4 hd4).trans g4
 have x5 := (fr p5 hp5 hd5).trans g5
 have x8 := (fr p8 hp8 hd8).trans g8
 have hCx : CellarIn x.h x.n c v1 v2 v3 := (hC.mono (n' := x.n) (fun b hb hbn => fr b (by omega) (by omega)) (by omega)).in_
 have hRx : RowsAt x.h x.n 3 (l.stays.map Stay.cells) v4 := (hR.mono (n' := x.n) (fun b hb hbn => fr b (by omega) (by omega)) (by omega)).at_
 have Ax := A.grow xg (by omega : t1.n ≤ x.n)
 have E1 := truly_ok n (by omega) c ok l okl T 51 I (by omega) v1 v2 v3 v4 va vb vc vd ve m k x (by omega) hCx hRx Ax hm (by omega)
 obtain ⟨lo1, hi1⟩ := I.lost ok l okl m (by omega) (by omega)
 have dx : Die d x.h := by obtain ⟨f, hf⟩ := d1; exact ⟨f, by rw [xg _ (by omega)]; exact hf⟩
 simp (disch := first|omega|(with_unfolding_all exact rfl)|(simp only[new_n,put_n,new_m];omega)|(refine put_m_le ?_;simp only[new_m];omega)) only [K3r12, Abs.W, reduceIte, Nat.reduceEqDiff, Nat.reduceAdd, decide_true, decide_false, kLoop_def, Nat.reduceSub, Env.find_set, l4, l5, l6, x4, x5, x13, knY, E1, Nat.zero_add]
 have EH := holds_ok n (by omega) (c.lost l m).1 (c.lost l m).2 (T.lost c l m) x lo1 hi1 (by omega)
 clear E1
 have hV1 : V = 1 → ¬ l.keeps < T.lost c l m := fun h => by
  rw [hV] at h
  by_cases q1 : (c.lost l m).2 ≤ l.keeps
  ·rw [if_pos q1] at h; omega
  ·rw [if_neg q1] at h
   by_cases q2 : (c.lost l m).1 ≤ l.keeps
   ·rw [if_pos q2] at h; omega
   ·rw [if_neg q2] at h; omega
 have hV2 : V = 2 → ¬ T.lost c l m ≤ l.keeps := fun h => by
  rw [hV] at h
  by_cases q1 : (c.lost l m).2 ≤ l.keeps
  ·rw [if_pos q1] at h; omega
  ·rw [if_neg q1] at h
   by_cases q2 : (c.lost l m).1 ≤ l.keeps
   ·rw [if_pos q2] at h; omega
   ·rw [if_neg q2] at h; omega
 generalize T.lost c l m = y at EH hV1 hV2 ⊢
 have q13_0 := fun cl L s => congrFun (congrFun (congrFun K3r13.eq_1 cl) L) s
 have q13_6 := fun cl L s => congrFun (congrFun (congrFun K3r13s6.eq_1 cl) L) s
 have q13_7 := fun cl L s => congrFun (congrFun (congrFun K3r13s7.eq_1 cl) L) s
 have q13_8 := fun cl L s => congrFun (congrFun (congrFun K3r13s8.eq_1 cl) L) s
 have q13_9 := fun cl L s => congrFun (congrFun (congrFun K3r13s9.eq_1 cl) L) s
 have q13_10 := fun cl L s => congrFun (congrFun (congrFun K3r13s10.eq_1 cl) L) s
 have q13_11 := fun cl L s => congrFun (congrFun (congrFun K3r13s11.eq_1 cl) L) s
 have q13_12 := fun cl L s => congrFun (congrFun (congrFun K3r13s12.eq_1 cl) L) s
 have q13_13 := fun cl L s => congrFun (congrFun (congrFun K3r13s13.eq_1 cl) L) s
 have q13_16 := fun cl L s => congrFun (congrFun (congrFun K3r13s16.eq_1 cl) L) s
 have q13_17 := fun cl L s => congrFun (congrFun (congrFun K3r13s17.eq_1 cl) L) s
 have q13_18 := fun cl L s => congrFun (congrFun (congrFun K3r13s18.eq_1 cl) L) s
 have q13_19 := fun cl L s => congrFun (congrFun (congrFun K3r13s19.eq_1 cl) L) s
 have q13_20 := fun cl L s => congrFun (congrFun (congrFun K3r13s20.eq_1 cl) L) s
 have q13_21 := fun cl L s => congrFun (congrFun (congrFun K3r13s21.eq_1 cl) L) s
 have q13_22 := fun cl L s => congrFun (congrFun (congrFun K3r13s22.eq_1 cl) L) s
 have q13_23 := fun cl L s => congrFun (congrFun (congrFun K3r13s23.eq_1 cl) L) s
 have done : ∀ L2 : Env, (∀ t, t = 3 ∨ t = 4 ∨ t = 5 ∨ t = 6 ∨ t = 7 ∨ t = 8 ∨ t = 9 ∨ t = 10 ∨ t = 11 ∨ t = 12 → L2.find t = L.find t) → L2.find 13 = .ptr t1.n 0 →
   ∃ (L3 : Env) (s2 : St) (T : Truth) (va vb vc vd ve : AV) (p13 z13 : Nat), trueTail (knows 19 (call Try.prog X n)) cx L2 [] x = trueTail (knows 19 (call Try.prog X n)) cx L3 [] s2 ∧ (∀ t, t = 3 ∨ t = 4 ∨ t = 5 ∨ t = 6 ∨ t = 7 ∨ t = 8 ∨ t = 9 ∨ t = 10 ∨ t = 11 ∨ t = 12 → L3.find t = L.find t) ∧ L3.find 13 = .ptr p13 0 ∧ p13 < s2.n ∧ s2.h.get p13 = some (.cells [va, vb, vc, vd, ve] z13) ∧ TruthAt s2.h s2.n T va vb vc vd ve ∧ T.In c 51 ∧ Die d s2.h ∧
   (∀ c, c < s.n → c ≠ d → s2.h.get c = s.h.get c) ∧ s.n ≤ s2.n ∧ s2.n ≤ s.n + 60010 := fun L2 h1 h2 => ⟨L2, x, T, va, vb, vc, vd, ve, t1.n, _, rfl, h1, h2, by omega, x13, Ax, I, dx, fr, by omega, by omega⟩
 cases e1 : decide (V = 1) with
 | true =>
  have e2 : decide (V = 2) = false := decide_eq_false (by have := of_decide_eq_true e1; omega)
  have e3 : decide (l.keeps < y) = false := decide_eq_false (hV1 (of_decide_eq_true e1))
  simp (config := { maxSteps := 2000000 }) (disch := first|omega|(with_unfolding_all exact rfl)|(simp only[new_n,put_n,new_m];omega)|(refine put_m_le ?_;simp only[new_m];omega)) only [q13_0, q13_6, q13_7, q13_8, q13_9, q13_10, q13_11, q13_12, q13_13, q13_16, q13_17, q13_18, q13_19, q13_20, q13_21, q13_22, q13_23, Abs.W, reduceIte, Nat.reduceEqDiff, Nat.reduceAdd, decide_true, decide_false, kLoop_def, Nat.reduceSub, Env.find_set, l4, l5, l6, l8, l10, x5, x8, knH, EH, e1, e2, e3, Nat.zero_add]
  refine done _ (fun t ht => ?_) ?_
  ·rcases ht with rfl | rfl | rfl | rfl | rfl | rfl | rfl | rfl | rfl | rfl <;> simp only [Env.find_set, reduceIte, Nat.reduceEqDiff]
  ·simp only [Env.find_set, reduceIte, Nat.reduceEqDiff]
 | false =>
  cases e2 : decide (V = 2) with
  | true =>
   have e3 : decide (y ≤ l.keeps) = false := decide_eq_false (hV2 (of_decide_eq_true e2))
   simp (config := { maxSteps := 2000000 }) (disch := first|omega|(with_unfolding_all exact rfl)|(simp only[new_n,put_n,new_m];omega)|(refine put_m_le ?_;simp only[new_m];omega)) only [q13_0, q13_6, q13_7, q13_8, q13_9, q13_10, q13_11, q13_12, q13_13, q13_16, q13_17, q13_18, q13_19, q13_20, q13_21, q13_22, q13_23, Abs.W, reduceIte, Nat.reduceEqDiff, Nat.reduceAdd, decide_true, decide_false, kLoop_def, Nat.reduceSub, Env.find_set, l4, l5, l6, l8, l10, x5, x8, knH, EH, e1, e2, e3, Nat.zero_add]
   refine done _ (fun t ht => ?_) ?_
   ·rcases ht with rfl | rfl | rfl | rfl | rfl | rfl | rfl | rfl | rfl | rfl <;> simp only [Env.find_set, reduceIte, Nat.reduceEqDiff]
   ·simp only [Env.find_set, reduceIte, Nat.reduceEqDiff]
  | false =>
   simp (config := { maxSteps := 2000000 }) (disch := first|omega|(with_unfolding_all exact rfl)|(simp only[new_n,put_n,new_m];omega)|(refine put_m_le ?_;simp only[new_m];omega)) only [q13_0, q13_6, q13_7, q13_8, q13_9, q13_10, q13_11, q13_12, q13_13, q13_16, q13_17, q13_18, q13_19, q13_20, q13_21, q13_22, q13_23, Abs.W, reduceIte, Nat.reduceEqDiff, Nat.reduceAdd, decide_true, decide_false, kLoop_def, Nat.reduceSub, Env.find_set, l4, l5, l6, l8, l10, x5, x8, knH, EH, e1, e2, Nat.zero_add]
   refine done _ (fun t ht => ?_) ?_
   ·rcases ht with rfl | rfl | rfl | rfl | rfl | rfl | rfl | rfl | rfl | rfl <;> simp only [Env.find_set, reduceIte, Nat.reduceEqDiff]
   ·simp only [Env.find_set, reduceIte, Nat.reduceEqDiff]
end Go.Proofs.Ytndbihaffijhbaa.walk
set_option maxRecDepth 10000
namespace Go.Proofs.Ytndbihaffijhbaa.walk
open Go.Abs Go.Proofs.Ytndbihaffijhbaa.code
theorem true_second (n : Nat) (hn : 13 ≤ n) (cx : Ctx) (L : Env) (s : St) (c : Cellar) (ok : c.Ok) (T : Truth) (I : T.In c 51) (v1 v2 v3 va vb vc vd ve : AV) (d p4 p13 z13 k : Nat) (box : Int) (hb0 : 0 ≤ box) (hb1 : 0 < c.boxes.length → box < c.boxes.length) (hk : k ≤ 50) (hs : s.n + 600000 ≤ far) (hd : Die d s.h) (hdn : d < s.n) (hp4 : p4 < s.n) (hp13 : p13 < s.n)
  (hC : CellarIn s.h s.n c v1 v2 v3) (len1 : ∀ s, lenSlA s v1 = .val (.int .i64 c.boxes.length) s) (ok1 : ∀ t, okA (.val v1 t) = .val v1 t) (A : TruthAt s.h s.n T va vb vc vd ve) (g4 : s.h.get p4 = some (.cells [.int .i64 c.hl, .int .i64 c.hh, v1, v2, v3] (tag 31))) (g13 : s.h.get p13 = some (.cells [va, vb, vc, vd, ve] z13))
  (l4 : L.find 4 = .ptr p4 0) (l6 : L.find 6 = .int .i64 k) (l7 : L.find 7 = .int .i64 box) (l13 : L.find 13 = .ptr p13 0) :
  ∃ (e : Ex) (L3 : Env) (s3 : St), trueTail (knows 19 (call Try.prog X n)) cx L [] s = .done e L3 [] s3 ∧ (e = .norm ∨ e = .exit 1) ∧ (∀ t, t = 3 ∨ t = 4 ∨ t = 5 ∨ t = 6 ∨ t = 7 ∨ t = 8 ∨ t = 9 ∨ t = 10 ∨ t = 11 ∨ t = 12 → L3.find t = L.find t) ∧ Die d s3.h ∧ (∀ c, c < s.n → s3.h.get c = s.h.get c) ∧ s.n ≤ s3.n ∧ s3.n ≤ s.n + 1 := by
 have hff : far = 1000000000 := rfl
 have knI : ∀ args s, knows 19 (call Try.prog X n) (.fn 16) args s = call Try.prog X n (.fn 16) args s := fun _ _ => rfl
 have knC : ∀ args s, knows 19 (call Try.prog X n) (.fn 17) args s = call Try.prog X n (.fn 17) args s := fun _ _ => rfl
 have knF : ∀ args s, knows 19 (call Try.prog X n) (.fn 18) args s = call Try.prog X n (.fn 18) args s := fun _ _ => rfl
 have knH : ∀ args s, knows 19 (call Try.prog X n) (.fn 15) args s = call Try.prog X n (.fn 15) args s := fun _ _ => rfl
 have ex0 : ∀ (a b : AV) (s : St), extA 0 s (.tup [a, b]) = .val a s := fun _ _ _ => rfl
 have ex1 : ∀ (a b : AV) (s : St), extA 1 s (.tup [a, b]) = .val b s := fun _ _ _ => rfl
 unfold trueTail
 by_cases hbe : c.boxes.length = 0
 ·have e0 : decide ((c.boxes.length : Int) = 0) = true := decide_eq_true (by omega)
  simp (disch := first|omega|(with_unfolding_all exact rfl)|(simp only[new_n,put_n,new_m];omega)|(refine put_m_le ?_;simp only[new_m];omega)) only [K3r15, Abs.W, reduceIte, Nat.reduceEqDiff, Nat.reduceAdd, decide_true, decide_false, kLoop_def, Nat.reduceSub, Env.find_set, l4, g4, ok1, len1, e0, Nat.zero_add]
  refine ⟨_, _, s, rfl, .inr rfl, fun t ht => ?_, hd, fun _ _ => rfl, by omega, by omega⟩
  rcases ht with rfl | rfl | rfl | rfl | rfl | rfl | rfl | rfl | rfl | rfl <;> simp only [Env.find_set, reduceIte, Nat.reduceEqDiff]
 have e0 : decide ((c.boxes.length : Int) = 0) = false := decide_eq_false (by omega)
 have hb2 := hb1 (by omega)
 obtain ⟨b, rfl⟩ : ∃ b : Nat, box = b := ⟨box.toNat, by omega⟩
 have hb : b < c.boxes.length := by omega
 have E1 := Ice_ok (N := n) (s := s) (box := (b : Int)) (hour := (k : Int)) c ok b k hb (by omega) rfl rfl (by omega) hC (by omega)
 simp (disch := first|omega|(with_unfolding_all exact rfl)|(simp only[new_n,put_n,new_m];omega)|(refine put_m_le ?_;simp only[new_m];omega)) only [K3r15, K3r16, Abs.W, reduceIte, Nat.reduceEqDiff, Nat.reduceAdd, decide_true, decide_false, kLoop_def, Nat.reduceSub, Env.find_set, l4, l6, l7, g4, ok1, len1, e0, knI, E1, ex0, ex1, Nat.zero_add]
 generalize hu1 : St.put (St.new s _) s.n _ = u1
 have u1n : u1.n = s.n + 1 := by rw [← hu1]; rfl
 have u1g : ∀ c, c < s.n → u1.h.get c = s.h.get c := fun c hc => by rw [← hu1, get_put_ne' _ _ _ _ (by omega), get_new_ne _ _ _ (by omega)]
 have u15 : u1.h.get s.n = some (.cells [.int .i64 (c.iceLo b k), .int .i64 (c.iceHi b k)] (tag 26)) := by rw [← hu1]; exact get_put_eq _ _ _ _ rfl (by omega)
 clear hu1
 have du : Die d u1.h := by obtain ⟨f, hf⟩ := hd; exact ⟨f, by rw [u1g _ hdn]; exact hf⟩
 have g41 := (u1g p4 hp4).trans g4
 have g131 := (u1g p13 hp13).trans g13
 have hC1 := hC.grow u1g (by omega : s.n ≤ u1.n)
 have A1 := A.grow u1g (by omega : s.n ≤ u1.n)
 have E2 := Cold_ok (N := n) (s := u1) (box := (b : Int)) (hour := (k : Int)) c ok b k hb (by omega) rfl rfl (by omega) hC1 (by omega)
 obtain ⟨W, hW⟩ : ∃ W : Int, W = (if 0 < c.iceLo b k then 1 else if 0 < c.iceHi b k then 3 else 2) := ⟨_, rfl⟩
 rw [← hW] at E2
 simp (disch := first|omega|(with_unfolding_all exact rfl)|(simp only[new_n,put_n,new_m];omega)|(refine put_m_le ?_;simp only[new_m];omega)) only [K3r17, Abs.W, reduceIte, Nat.reduceEqDiff, Nat.reduceAdd, decide_true, decide_false, kLoop_def, Nat.reduceSub, Env.find_set, l4, l6, l7, g41, knC, E2, ex0, ex1, Nat.zero_add]
 have i1 : b < T.ice.length := by rw [I.il]; exact hb
 have m1 : b < T.melts.length := by rw [I.melts.len]; exact hb
 obtain ⟨bi, pi, ci, szi, x1, x2, x3, x4⟩ := ints_at A1.ice i1
 obtain ⟨bm, pm, cm, szm, vr, xm1, xm2, xm3, xm4, xm5, xm6⟩ := A1.melts.at_ b m1
 have oa : ∀ t, okA (.val va t) = .val va t := fun t => okA_ne A1.ice.ne
 have ob := A1.melts.ok
 obtain ⟨f1, f2⟩ := I.fall ok hb k (by omega)
 have E3 := fallT_ok n (by omega) c ok T 51 I v1 v2 v3 vr b k b (T.ice[b]) k u1 hC1 hb xm6 rfl (getD_eq _ i1).symm rfl (by omega) (by omega) (by omega)
 simp (disch := first|omega|(with_unfolding_all exact rfl)|(simp only[new_n,put_n,new_m];omega)|(refine put_m_le ?_;simp only[new_m];omega)) only [K3r18, Abs.W, reduceIte, Nat.reduceEqDiff, Nat.reduceAdd, decide_true, decide_false, kLoop_def, Nat.reduceSub, Env.find_set, l4, l6, l7, l13, g41, g131, knF, oa, ob, x2, x3, x4, xm2, xm3, xm4, xm5, E3, endO_nil, regD_ok, Nat.zero_add]
 have EH := holds_ok n (by omega) (c.iceLo b k) (c.iceHi b k) (T.fall c b k) u1 f1 f2 (by omega)
 clear E1 E2 E3
 have hW1 : W = 1 → ¬ T.fall c b k = 0 := fun h => by
  rw [hW] at h
  by_cases q1 : 0 < c.iceLo b k
  ·omega
  ·rw [if_neg q1] at h
   by_cases q2 : 0 < c.iceHi b k
   ·rw [if_pos q2] at h; omega
   ·rw [if_neg q2] at h; omega
 have hW2 : W = 2 → ¬ 0 < T.fall c b k := fun h => by
  rw [hW] at h
  by_cases q1 : 0 < c.iceLo b k
  ·rw [if_pos q1] at h; omega
  ·rw [if_neg q1] at h
   by_cases q2 : 0 < c.iceHi b k
   ·rw [if_pos q2] at h; omega
   ·omega
 generalize T.fall c b k = y at EH hW1 hW2 ⊢
 have d0 : decide ((0 : Int) = 0) = true := rfl
 have q19_0 := fun cl L s => congrFun (congrFun (congrFun K3r19.eq_1 cl) L) s
 have q19_4 := fun cl L s => congrFun (congrFun (congrFun K3r19s4.eq_1 cl) L) s
 have q19_5 := fun cl L s => congrFun (congrFun (congrFun K3r19s5.eq_1 cl) L) s
 have q19_8 := fun cl L s => congrFun (congrFun (congrFun K3r19s8.eq_1 cl) L) s
 have q19_9 := fun cl L s => congrFun (congrFun (congrFun K3r19s9.eq_1 cl) L) s
 have q19_10 := fun cl L s => congrFun (congrFun (congrFun K3r19s10.eq_1 cl) L) s
 have q19_11 := fun cl L s => congrFun (congrFun (congrFun K3r19s11.eq_1 cl) L) s
 have q19_14 := fun cl L s => congrFun (congrFun (congrFun K3r19s14.eq_1 cl) L) s
 have q19_15 := fun cl L s => congrFun (congrFun (congrFun K3r19s15.eq_1 cl) L) s
 have q19_16 := fun cl L s => congrFun (congrFun (congrFun K3r19s16.eq_1 cl) L) s
 have q19_17 := fun cl L s => congrFun (congrFun (congrFun K3r19s17.eq_1 cl) L) s
 have q19_18 := fun cl L s => congrFun (congrFun (congrFun K3r19s18.eq_1 cl) L) s
 have q19_19 := fun cl L s => congrFun (congrFun (congrFun K3r19s19.eq_1 cl) L) s
 have q19_22 := fun cl L s => congrFun (congrFun (congrFun K3r19s22.eq_1 cl) L) s
 have q19_23 := fun cl L s => congrFun (congrFun (congrFun K3r19s23.eq_1 cl) L) s
 have q19_24 := fun cl L s => congrFun (congrFun (congrFun K3r19s24.eq_1 cl) L) s
 have q19_25 := fun cl L s => congrFun (congrFun (congrFun K3r19s25.eq_1 cl) L) s
 have q19_26 := fun cl L s => congrFun (congrFun (congrFun K3r19s26.eq_1 cl) L) s
 have q19_27 := fun cl L s => congrFun (congrFun (congrFun K3r19s27.eq_1 cl) L) s
 cases e1 : decide (W = 1) with
 | true =>
  have e2 : decide (W = 2) = false := decide_eq_false (by have := of_decide_eq_true e1; omega)
  have e3 : decide (y = 0) = false := decide_eq_false (hW1 (of_decide_eq_true e1))
  simp (config := { maxSteps := 2000000 }) (disch := first|omega|(with_unfolding_all exact rfl)|(simp only[new_n,put_n,new_m];omega)|(refine put_m_le ?_;simp only[new_m];omega)) only [q19_0, q19_4, q19_5, q19_8, q19_9, q19_10, q19_11, q19_14, q19_15, q19_16, q19_17, q19_18, q19_19, q19_22, q19_23, q19_24, q19_25, q19_26, q19_27, Abs.W, reduceIte, Nat.reduceEqDiff, Nat.reduceAdd, decide_true, decide_false, kLoop_def, Nat.reduceSub, Env.find_set, u15, d0, knH, EH, e1, e2, e3, Nat.zero_add]
  refine ⟨_, _, _, rfl, .inl rfl, fun t ht => ?_, du, u1g, by omega, by omega⟩
  rcases ht with rfl | rfl | rfl | rfl | rfl | rfl | rfl | rfl | rfl | rfl <;> simp only [Env.find_set, reduceIte, Nat.reduceEqDiff]
 | false =>
  cases e2 : decide (W = 2) with
  | true =>
   have e3 : decide (0 < y) = false := decide_eq_false (hW2 (of_decide_eq_true e2))
   simp (config := { maxSteps := 2000000 }) (disch := first|omega|(with_unfolding_all exact rfl)|(simp only[new_n,put_n,new_m];omega)|(refine put_m_le ?_;simp only[new_m];omega)) only [q19_0, q19_4, q19_5, q19_8, q19_9, q19_10, q19_11, q19_14, q19_15, q19_16, q19_17, q19_18, q19_19, q19_22, q19_23, q19_24, q19_25, q19_26, q19_27, Abs.W, reduceIte, Nat.reduceEqDiff, Nat.reduceAdd, decide_true, decide_false, kLoop_def, Nat.reduceSub, Env.find_set, u15, d0, knH, EH, e1, e2, e3, Nat.zero_add]
   refine ⟨_, _, _, rfl, .inl rfl, fun t ht => ?_, du, u1g, by omega, by omega⟩
   rcases ht with rfl | rfl | rfl | rfl | rfl | rfl | rfl | rfl | rfl | rfl <;> simp only [Env.find_set, reduceIte, Nat.reduceEqDiff]
  | false =>
   simp (config := { maxSteps := 2000000 }) (disch := first|omega|(with_unfolding_all exact rfl)|(simp only[new_n,put_n,new_m];omega)|(refine put_m_le ?_;simp only[new_m];omega)) only [q19_0, q19_4, q19_5, q19_8, q19_9, q19_10, q19_11, q19_14, q19_15, q19_16, q19_17, q19_18, q19_19, q19_22, q19_23, q19_24, q19_25, q19_26, q19_27, Abs.W, reduceIte, Nat.reduceEqDiff, Nat.reduceAdd, decide_true, decide_false, kLoop_def, Nat.reduceSub, Env.find_set, u15, d0, knH, EH, e1, e2, Nat.zero_add]
   refine ⟨_, _, _, rfl, .inl rfl, fun t ht => ?_, du, u1g, by omega, by omega⟩
   rcases ht with rfl | rfl | rfl | rfl | rfl | rfl | rfl | rfl | rfl | rfl <;> simp only [Env.find_set, reduceIte, Nat.reduceEqDiff]
end Go.Proofs.Ytndbihaffijhbaa.walk
set_option maxRecDepth 10000
namespace Go.Proofs.Ytndbihaffijhbaa.walk
open Go.Abs Go.Proofs.Ytndbihaffijhbaa.code
theorem true_loop {r : R} (n : Nat) (hn : 13 ≤ n) (cx : Ctx) (L : Env) (s : St) (c : Cellar) (ok : c.Ok) (l : Lot) (okl : l.Ok c.boxes.length) (v1 v2 v3 v4 : AV) (d lo n0 n1 p4 p5 p8 z8 k m : Nat) (V box : Int) (hr : loopN K3l0 rounds (knows 19 (call Try.prog X n)) cx L [] s = r) (hV : V = (if (c.lost l m).2 ≤ l.keeps then 1 else if (c.lost l m).1 ≤ l.keeps then 3 else 2)) (hb0 : 0 ≤ box) (hb1 : 0 < c.boxes.length → box < c.boxes.length) (hk : k ≤ 50) (hm : (k : Int) = l.born + m) (hs : s.n + 5000000 ≤ far) (hd : Die d s.h) (hdl : d < lo) (hln : lo ≤ n0) (hn0 : n0 ≤ s.n) (hn1 : n1 ≤ s.n) (hp4 : p4 < s.n) (hp5 : p5 < s.n) (hp8 : p8 < s.n) (hd4 : p4 ≠ d) (hd5 : p5 ≠ d) (hd8 : p8 ≠ d) (hdn : d < s.n)
  (hC : CellarNew s.h lo n0 c v1 v2 v3) (len1 : ∀ s, lenSlA s v1 = .val (.int .i64 c.boxes.length) s) (ok1 : ∀ t, okA (.val v1 t) = .val v1 t) (hR : Abs.Rows s.h lo n1 3 (tag 80) (l.stays.map Stay.cells) v4) (g4 : s.h.get p4 = some (.cells [.int .i64 c.hl, .int .i64 c.hh, v1, v2, v3] (tag 31))) (g5 : s.h.get p5 = some (.cells [.int .i64 l.born, .int .i64 l.keeps, v4] (tag 35))) (g8 : s.h.get p8 = some (.cells [.int .i64 (c.lost l m).1, .int .i64 (c.lost l m).2] z8))
  (l3 : L.find 3 = .ptr d 0) (l4 : L.find 4 = .ptr p4 0) (l5 : L.find 5 = .ptr p5 0) (l6 : L.find 6 = .int .i64 k) (l7 : L.find 7 = .int .i64 box) (l8 : L.find 8 = .ptr p8 0) (l10 : L.find 10 = .int .i64 V) (l12 : L.find 12 = .int .i64 0) :
  ∃ (L1 : Env) (s1 : St), r = .done (.exit 0) L1 [] s1 := by
 have hff : far = 1000000000 := rfl
 have kl : K3l0 = kSeq (kSeq (kRegion K3r10 [57]) (kCond (.tmp 57) kSkip (kExit 0))) (kSeq (kBlock 1 trueBody) (kRegion K3r21 [12])) := rfl
 obtain ⟨e, L1, s1, rfl, rfl⟩ := loop_of hr
  (fun i L' t => (∀ t, t = 3 ∨ t = 4 ∨ t = 5 ∨ t = 6 ∨ t = 7 ∨ t = 8 ∨ t = 9 ∨ t = 10 ∨ t = 11 → L'.find t = L.find t) ∧ L'.find 12 = .int .i64 i ∧ Die d t.h ∧ (∀ c, c < s.n → c ≠ d → t.h.get c = s.h.get c) ∧ s.n ≤ t.n ∧ t.n ≤ s.n + 60020 * i)
  (fun e L1 s1 => e = .exit 0)
  5 (by unfold rounds; omega) ⟨fun _ _ => rfl, l12, hd, fun _ _ _ => rfl, Nat.le_refl _, Nat.le_refl _⟩
  (fun i L' t hi ⟨q0, q12, qd, qs, qn, qk⟩ => by
   by_cases hlt : i < 5
   ·have e0 : decide ((i : Int) < 5) = true := decide_eq_true (by omega)
    have a1 : ∀ s, aAdd s .i64 (i : Int) 1 = .val (.int .i64 ((i : Int) + 1)) s := fun s => aAdd_i64 s _ _ (by omega)
    have j3 := (q0 3 (by simp)).trans l3
    have j4 := (q0 4 (by simp)).trans l4
    have j5 := (q0 5 (by simp)).trans l5
    have j6 := (q0 6 (by simp)).trans l6
    have j7 := (q0 7 (by simp)).trans l7
    have j8 := (q0 8 (by simp)).trans l8
    have j10 := (q0 10 (by simp)).trans l10
    have t4 := (qs p4 hp4 hd4).trans g4
    have hCt : CellarNew t.h lo n0 c v1 v2 v3 := hC.mono (fun b hb hbn => qs b (by omega) (by omega)) (Nat.le_refl _)
    obtain ⟨L2, s2, T, va, vb, vc, vd, ve, p13, z13, w0, w1, w2, w3, w4, w5, w6, w7, w8, w9, w10⟩ := true_first n hn cx (L'.set 57 (.bool true)) t c ok l okl v1 v2 v3 v4 d lo n0 n1 p4 p5 p8 z8 k m V hV hk hm (by omega) qd hdl hln (by omega) (by omega) (by omega) (by omega) (by omega) hd4 hd5 hd8 hCt (hR.mono (fun b hb hbn => qs b (by omega) (by omega)) (Nat.le_refl _)) t4 ((qs p5 hp5 hd5).trans g5) ((qs p8 hp8 hd8).trans g8) (by simp only [Env.find_set, j3, reduceIte, Nat.reduceEqDiff]) (by simp only [Env.find_set, j4, reduceIte, Nat.reduceEqDiff]) (by simp only [Env.find_set, j5, reduceIte, Nat.reduceEqDiff]) (by simp only [Env.find_set, j6, reduceIte, Nat.reduceEqDiff]) (by simp only [Env.find_set, j8, reduceIte, Nat.reduceEqDiff]) (by simp only [Env.find_set, j10, reduceIte, Nat.reduceEqDiff])
    have fr : ∀ b, lo ≤ b → b < n0 → s2.h.get b = t.h.get b := fun b hb hbn => w8 b (by omega) (by omega)
    obtain ⟨e, L3, s3, p0, pe, p1, p2, p3, p5', p6⟩ := true_second n hn cx L2 s2 c ok T w6 v1 v2 v3 va vb vc vd ve d p4 p13 z13 k box hb0 hb1 hk (by omega) w7 (by omega) (by omega) w3 ((hCt.mono (n' := s2.n) fr (by omega)).in_) len1 ok1 w5 ((w8 p4 (by omega) hd4).trans t4) w4 ((w1 4 (by simp)).trans (by simp only [Env.find_set, j4, reduceIte, Nat.reduceEqDiff])) ((w1 6 (by simp)).trans (by simp only [Env.find_set, j6, reduceIte, Nat.reduceEqDiff])) ((w1 7 (by simp)).trans (by simp only [Env.find_set, j7, reduceIte, Nat.reduceEqDiff])) w2
    have o12 : L3.find 12 = .int .i64 i := (p1 12 (by simp)).trans ((w1 12 (by simp)).trans (by simp only [Env.find_set, q12, reduceIte, Nat.reduceEqDiff]))
    refine .inl ⟨hlt, L3.set 12 (.int .i64 ((i : Int) + 1)), s3, ?_, fun t ht => ?_, ?_, p2, fun c hc hcd => (p3 c (by omega)).trans ((w8 c (by omega) hcd).trans (qs c hc hcd)), by omega, by omega⟩
    ·rw [kl]
     simp (disch := first|omega|(with_unfolding_all exact rfl)|(simp only[new_n,put_n,new_m];omega)|(refine put_m_le ?_;simp only[new_m];omega)) only [K3r10, Abs.W, reduceIte, Nat.reduceEqDiff, Nat.reduceAdd, decide_true, decide_false, kLoop_def, Nat.reduceSub, Env.find_set, q12, e0]
     rw [w0, p0]
     rcases pe with rfl | rfl <;> simp (disch := first|omega|(with_unfolding_all exact rfl)|(simp only[new_n,put_n,new_m];omega)|(refine put_m_le ?_;simp only[new_m];omega)) only [K3r21, Abs.W, reduceIte, Nat.reduceEqDiff, Nat.reduceAdd, decide_true, decide_false, kLoop_def, Nat.reduceSub, Env.find_set, o12, a1]
    ·have h1 : L3.find t = L'.find t := (p1 t (by omega)).trans ((w1 t (by omega)).trans (by rcases ht with rfl | rfl | rfl | rfl | rfl | rfl | rfl | rfl | rfl <;> simp only [Env.find_set, reduceIte, Nat.reduceEqDiff]))
     rw [← q0 t ht, ← h1]
     rcases ht with rfl | rfl | rfl | rfl | rfl | rfl | rfl | rfl | rfl <;> simp only [Env.find_set, reduceIte, Nat.reduceEqDiff]
    ·simp only [Env.find_set, reduceIte]; rfl
   ·obtain rfl : i = 5 := by omega
    have e0 : decide (((5 : Nat) : Int) < 5) = false := rfl
    refine .inr ⟨.exit 0, L'.set 57 (.bool false), t, by simp, ?_, rfl⟩
    rw [kl]
    simp (disch := first|omega|(with_unfolding_all exact rfl)|(simp only[new_n,put_n,new_m];omega)|(refine put_m_le ?_;simp only[new_m];omega)) only [K3r10, Abs.W, reduceIte, Nat.reduceEqDiff, Nat.reduceAdd, decide_true, decide_false, kLoop_def, Nat.reduceSub, Env.find_set, q12, e0])
 exact ⟨L1, s1, rfl⟩
end Go.Proofs.Ytndbihaffijhbaa.walk
set_option maxRecDepth 10000
namespace Go.Proofs.Ytndbihaffijhbaa.walk
open Go.Abs Go.Proofs.Ytndbihaffijhbaa.code
noncomputable def truLoop : K := kSeq (kSeq (kRegion K3r9 [12]) (kBlock 0 (kLoop K3l0))) (kSeq (kRegion K3r22 [2]) kRet)
noncomputable def truRest : K := kSeq (kRegion K3r2 [4]) (kSeq (kRegion K3r3 [5]) (kSeq (kRegionD K3r4 [6, 7]) (kSeq (kRegion K3r5 [8, 9]) (kSeq (kRegion K3r6 [10, 11]) (kSeq (kSeq (kRegion K3r7 [55]) (kCond (.tmp 55) (kSeq (kRegion K3r8 [2]) kRet) kSkip)) truLoop)))))
theorem tru_body (n : Nat) (hn : 13 ≤ n) (cx : Ctx) (s : St) (d : Nat) (hd : Die d s.h) (hdn : d < s.n) (hs : s.n + 9000000 ≤ far) (hm : s.m = far) :
  ∃ s', finA Try.prog Try.f3 (truRest (knows 19 (call Try.prog X n)) cx (.cons 3 (.ptr d 0) .nil) [] s) = .val (.bool true) s' := by
 have hff : far = 1000000000 := rfl
 have kn12 : ∀ args s, knows 19 (call Try.prog X n) (.fn 7) args s = call Try.prog X n (.fn 7) args s := fun _ _ => rfl
 have kn13 : ∀ args s, knows 19 (call Try.prog X n) (.fn 8) args s = call Try.prog X n (.fn 8) args s := fun _ _ => rfl
 have knH : ∀ args s, knows 19 (call Try.prog X n) (.fn 9) args s = call Try.prog X n (.fn 9) args s := fun _ _ => rfl
 have kn14 : ∀ args s, knows 19 (call Try.prog X n) (.fn 10) args s = call Try.prog X n (.fn 10) args s := fun _ _ => rfl
 have knL : ∀ args s, knows 19 (call Try.prog X n) (.fn 11) args s = call Try.prog X n (.fn 11) args s := fun _ _ => rfl
 have knF : ∀ args s, knows 19 (call Try.prog X n) (.fn 12) args s = call Try.prog X n (.fn 12) args s := fun _ _ => rfl
 have kn24 : ∀ s, knows 19 (call Try.prog X n) (.fn 19) [] s = .val (.bool true) s := fun _ => rfl
 have ex0 : ∀ (a b : AV) (s : St), extA 0 s (.tup [a, b]) = .val a s := fun _ _ _ => rfl
 have ex1 : ∀ (a b : AV) (s : St), extA 1 s (.tup [a, b]) = .val b s := fun _ _ _ => rfl
 unfold truRest
 simp (disch := first|omega|(with_unfolding_all exact rfl)|(simp only[new_n,put_n,new_m];omega)|(refine put_m_le ?_;simp only[new_m];omega)) only [K3r2, Abs.W, reduceIte, Nat.reduceEqDiff, Nat.reduceAdd, decide_true, decide_false, kLoop_def, Nat.reduceSub, Env.find_set, kn12]
 generalize hc1 : call _ _ _ (.fn 7) _ _ = r1
 obtain ⟨c, v1, v2, v3, t1, rfl, st1, d1, ok, hC⟩ := CellarOf_ex 3 5 hc1 (by omega) (by omega) (by omega) hd hdn (by omega)
 have n1 : s.n ≤ t1.n := st1.n
 have k1 : t1.n ≤ s.n + 1000 := st1.le
 obtain ⟨ok1, c1, sc1⟩ := hC.b.scalar
 obtain ⟨ok2, c2, sc2⟩ := hC.f.scalar
 obtain ⟨ok3, c3, sc3⟩ := hC.r.scalar
 have len1 := hC.b.len
 rw [List.length_map] at len1
 simp (disch := first|omega|(with_unfolding_all exact rfl)|(simp only[new_n,put_n,new_m];omega)|(refine put_m_le ?_;simp only[new_m];omega)) only [Abs.W, reduceIte, Nat.reduceEqDiff, Nat.reduceAdd, decide_true, decide_false, kLoop_def, Nat.reduceSub, Env.find_set, sc1, sc2, sc3, scal_nil]
 obtain ⟨y, hy⟩ : ∃ y : St, y = (t1.new (.cells [.int .i64 0, .int .i64 0, .nilslice, .nilslice, .nilslice] (tag 31))).put t1.n (.cells [.int .i64 c.hl, .int .i64 c.hh, v1, v2, v3] (tag 31)) := ⟨_, rfl⟩
 rw [← hy]
 have yn : y.n = t1.n + 1 := by rw [hy]; rfl
 have yg : ∀ c, c ≠ t1.n → y.h.get c = t1.h.get c := fun c hc => by rw [hy, get_put_ne' _ _ _ _ hc, get_new_ne _ _ _ hc]
 have y4 : y.h.get t1.n = some (.cells [.int .i64 c.hl, .int .i64 c.hh, v1, v2, v3] (tag 31)) := by rw [hy]; exact get_put_eq _ _ _ _ rfl (by omega)
 have dy : Die d y.h := by obtain ⟨f, hf'⟩ := d1; exact ⟨f, by rw [yg _ (by omega)]; exact hf'⟩
 clear hy
 simp (disch := first|omega|(with_unfolding_all exact rfl)|(simp only[new_n,put_n,new_m];omega)|(refine put_m_le ?_;simp only[new_m];omega)) only [K3r3, Abs.W, reduceIte, Nat.reduceEqDiff, Nat.reduceAdd, decide_true, decide_false, kLoop_def, Nat.reduceSub, Env.find_set, y4, kn13, Nat.zero_add]
 generalize hc2 : call _ _ _ (.fn 8) _ _ = r2
 obtain ⟨l, v4, t2, rfl, st2, d2, okl, b9, hR⟩ := LotOf_ex (k := c.boxes.length) 4 hc2 (by omega) (by omega) dy (by omega) (by omega) (by have := ok.b; omega) len1 ok1
 have n2 : y.n ≤ t2.n := st2.n
 have k2 : t2.n ≤ y.n + 1000 := st2.le
 obtain ⟨ok4, c4, sc4⟩ := hR.scalar
 have z4 := (st2.same t1.n (by omega) (by omega)).trans y4
 simp (disch := first|omega|(with_unfolding_all exact rfl)|(simp only[new_n,put_n,new_m];omega)|(refine put_m_le ?_;simp only[new_m];omega)) only [Abs.W, reduceIte, Nat.reduceEqDiff, Nat.reduceAdd, decide_true, decide_false, kLoop_def, Nat.reduceSub, Env.find_set, sc4, scal_nil]
 obtain ⟨z, hz⟩ : ∃ z : St, z = (t2.new (.cells [.int .i64 0, .int .i64 0, .nilslice] (tag 35))).put t2.n (.cells [.int .i64 l.born, .int .i64 l.keeps, v4] (tag 35)) := ⟨_, rfl⟩
 rw [← hz]
 have zn : z.n = t2.n + 1 := by rw [hz]; rfl
 have zg : ∀ c, c ≠ t2.n → z.h.get c = t2.h.get c := fun c hc => by rw [hz, get_put_ne' _ _ _ _ hc, get_new_ne _ _ _ hc]
 have z5 : z.h.get t2.n = some (.cells [.int .i64 l.born, .int .i64 l.keeps, v4] (tag 35)) := by rw [hz]; exact get_put_eq _ _ _ _ rfl (by omega)
 have dz : Die d z.h := by obtain ⟨f, hf'⟩ := d2; exact ⟨f, by rw [zg _ (by omega)]; exact hf'⟩
 have z4' := (zg t1.n (by omega)).trans z4
 clear hz
 have b0 := okl.b0
 have hz4 := z4'
 have zb : ∀ b, s.n + 1 ≤ b → b < t1.n → z.h.get b = t1.h.get b := fun b hb hbn => by rw [zg b (by omega), st2.same b (by omega) (by omega), yg b (by omega)]
 simp (disch := first|omega|(with_unfolding_all exact rfl)|(simp only[new_n,put_n,new_m];omega)|(refine put_m_le ?_;simp only[new_m];omega)) only [K3r4, Abs.W, reduceIte, Nat.reduceEqDiff, Nat.reduceAdd, decide_true, decide_false, kLoop_def, Nat.reduceSub, Env.find_set, z5, knH, Nat.zero_add]
 generalize hc3 : call _ _ _ (.fn 9) _ _ = r3
 obtain ⟨hour, t3, rfl, st3, d3, h0, h1⟩ := HourOf_ex hc3 (by omega) dz (by show d < z.n; omega) (by show z.n + 1000 ≤ far; omega) ⟨b0, by omega⟩
 have n3 : z.n ≤ t3.n := st3.n
 have k3 : t3.n ≤ z.n + 10 := st3.le
 have f43 : t3.h.get t1.n = _ := (st3.same t1.n (by show t1.n < z.n; omega) (by omega)).trans hz4
 simp (disch := first|omega|(with_unfolding_all exact rfl)|(simp only[new_n,put_n,new_m];omega)|(refine put_m_le ?_;simp only[new_m];omega)) only [thenT_turn, Abs.W, reduceIte, Nat.reduceEqDiff, Nat.reduceAdd, decide_true, decide_false, kLoop_def, Nat.reduceSub, Env.find_set, f43, ok1, len1, kn14, kFold_def, foldA_nil, foldA_cons, minA_i64, Nat.zero_add]
 generalize hc3b : call _ _ _ (.fn 10) _ _ = r3b
 obtain ⟨box, q, rfl, st3b, dq, bx0, bx1⟩ := cast_ex hc3b (by omega) d3 (by show d < t3.n; omega) (by show t3.n + 100 ≤ far; omega) (by have := ok.b; omega)
 have qn1 : t3.n ≤ q.n := st3b.n
 have qk1 : q.n ≤ t3.n := st3b.le
 have qg : ∀ c, c < z.n → c ≠ d → q.h.get c = z.h.get c := fun c hc hcd => by
  rw [st3b.same c (by show c < t3.n; omega) hcd]
  show t3.h.get c = _
  rw [st3.same c hc hcd]
 have kv : keptV z.h t3.h v1 = true := keptV_of_rows (hC.b.mono zb (Nat.le_refl _)) fun b hb hbn => st3.same b (by show b < z.n; omega) (by omega)
 simp (disch := first|omega|(with_unfolding_all exact rfl)|(simp only[new_n,put_n,new_m];omega)|(refine put_m_le ?_;simp only[new_m];omega)) only [Abs.W, reduceIte, Nat.reduceEqDiff, Nat.reduceAdd, decide_true, decide_false, kLoop_def, Nat.reduceSub, Env.find_set]
 rw [endT_kept (by simp only [keptAll_cons, keptAll_nil, find_cons, keptV_ptr, hz4, f43, kv, sameO_cells, reduceIte, Nat.reduceEqDiff, Bool.and_self])]
 simp (disch := first|omega|(with_unfolding_all exact rfl)|(simp only[new_n,put_n,new_m];omega)|(refine put_m_le ?_;simp only[new_m];omega)) only [Abs.W, reduceIte, Nat.reduceEqDiff, Nat.reduceAdd, decide_true, decide_false, kLoop_def, Nat.reduceSub, Env.find_set, endO_nil, regD_ok]
 have f4 := (qg t1.n (by omega) (by omega)).trans hz4
 have f5 := (qg t2.n (by omega) (by omega)).trans z5
 have hCq : CellarNew q.h (s.n + 1) t1.n c v1 v2 v3 := hC.mono (fun b hb hbn => (qg b (by omega) (by omega)).trans (zb b hb hbn)) (Nat.le_refl _)
 have hRq : Abs.Rows q.h (y.n + 1) t2.n 3 (tag 80) (l.stays.map Stay.cells) v4 := hR.mono (fun b hb hbn => by rw [qg b (by omega) (by omega), zg b (by omega)]) (Nat.le_refl _)
 have hC3 : CellarIn q.h q.n c v1 v2 v3 := (hCq.mono (n' := q.n) (fun _ _ _ => rfl) (by omega)).in_
 have hR3 : RowsAt q.h q.n 3 (l.stays.map Stay.cells) v4 := (hRq.mono (n' := q.n) (fun _ _ _ => rfl) (by omega)).at_
 obtain ⟨k, hk⟩ : ∃ k : Nat, min 50 hour = k := ⟨(min 50 hour).toNat, by omega⟩
 obtain ⟨m, hm'⟩ : ∃ m : Nat, (k : Int) = l.born + m := ⟨((k : Int) - l.born).toNat, by omega⟩
 rw [hk]
 have s4 : v4.scalar = true := rows_scal hR
 have E1 := Lost_ok (N := n) (s := q) (hour := (k : Int)) c ok l okl m (by omega) hC3 hR3 s4 hm' (by omega) (by omega)
 simp (disch := first|omega|(with_unfolding_all exact rfl)|(simp only[new_n,put_n,new_m];omega)|(refine put_m_le ?_;simp only[new_m];omega)) only [K3r5, Abs.W, reduceIte, Nat.reduceEqDiff, Nat.reduceAdd, decide_true, decide_false, kLoop_def, Nat.reduceSub, Env.find_set, f4, f5, knL, E1, ex0, ex1, Nat.zero_add]
 generalize hu1 : St.put (St.new q _) q.n _ = u1
 have u1n : u1.n = q.n + 1 := by rw [← hu1]; rfl
 have u1g : ∀ c, c < q.n → u1.h.get c = q.h.get c := fun c hc => by rw [← hu1, get_put_ne' _ _ _ _ (by omega), get_new_ne _ _ _ (by omega)]
 have u1x : u1.h.get q.n = some (.cells [.int .i64 (c.lost l m).1, .int .i64 (c.lost l m).2] (tag 26)) := by rw [← hu1]; exact get_put_eq _ _ _ _ rfl (by omega)
 clear hu1
 have f41 := (u1g t1.n (by omega)).trans f4
 have f51 := (u1g t2.n (by omega)).trans f5
 have du : Die d u1.h := by obtain ⟨f, hf⟩ := dq; exact ⟨f, by rw [u1g _ (by omega)]; exact hf⟩
 have E2 := Fresh_ok (N := n) (s := u1) (hour := (k : Int)) c ok l okl m (by omega) (hC3.grow u1g (by omega)) (hR3.grow u1g (by omega)) s4 hm' (by omega) (by omega)
 obtain ⟨V, hV⟩ : ∃ V : Int, V = (if (c.lost l m).2 ≤ l.keeps then 1 else if (c.lost l m).1 ≤ l.keeps then 3 else 2) := ⟨_, rfl⟩
 rw [← hV] at E2
 have d0 : decide ((0 : Int) = 0) = true := rfl
 simp (disch := first|omega|(with_unfolding_all exact rfl)|(simp only[new_n,put_n,new_m];omega)|(refine put_m_le ?_;simp only[new_m];omega)) only [K3r6, K3r7, K3r7s4, K3r7s5, Abs.W, reduceIte, Nat.reduceEqDiff, Nat.reduceAdd, decide_true, decide_false, kLoop_def, Nat.reduceSub, Env.find_set, f41, f51, knF, E2, ex0, ex1, d0, Nat.zero_add]
 unfold truLoop
 simp (disch := first|omega|(with_unfolding_all exact rfl)|(simp only[new_n,put_n,new_m];omega)|(refine put_m_le ?_;simp only[new_m];omega)) only [K3r9, Abs.W, reduceIte, Nat.reduceEqDiff, Nat.reduceAdd, decide_true, decide_false, kLoop_def, Nat.reduceSub, Env.find_set]
 generalize hlp : loopN _ rounds _ _ _ _ _ = rl
 obtain ⟨L1, s1, rfl⟩ := true_loop n hn cx _ u1 c ok l okl v1 v2 v3 v4 d (s.n + 1) (t1.n + 1) t2.n t1.n t2.n q.n _ k m V box hlp hV bx0 (fun h => by omega) (by omega) hm' (by omega) du (by omega) (by omega) (by omega) (by omega) (by omega) (by omega) (by omega) (by omega) (by omega) (by omega) (by omega) (hCq.mono (n' := t1.n + 1) (fun b hb hbn => u1g b (by omega)) (by omega)) len1 ok1 (rows_lower (hRq.mono (fun b hb hbn => u1g b (by omega)) (Nat.le_refl _)) (by omega)) f41 f51 u1x (by simp only [find_cons, Env.find_set, reduceIte, Nat.reduceEqDiff]) (by simp only [find_cons, Env.find_set, reduceIte, Nat.reduceEqDiff]) (by simp only [find_cons, Env.find_set, reduceIte, Nat.reduceEqDiff]) (by simp only [find_cons, Env.find_set, reduceIte, Nat.reduceEqDiff]) (by simp only [find_cons, Env.find_set, reduceIte, Nat.reduceEqDiff]) (by simp only [find_cons, Env.find_set, reduceIte, Nat.reduceEqDiff]) (by simp only [find_cons, Env.find_set, reduceIte, Nat.reduceEqDiff]) (by simp only [find_cons, Env.find_set, reduceIte, Nat.reduceEqDiff])
 simp (disch := first|omega|(with_unfolding_all exact rfl)|(simp only[new_n,put_n,new_m];omega)|(refine put_m_le ?_;simp only[new_m];omega)) only [K3r22, res3, Abs.W, reduceIte, Nat.reduceEqDiff, Nat.reduceAdd, decide_true, decide_false, kLoop_def, Nat.reduceSub, Env.find_set, kn24]
 exact ⟨_, rfl⟩
end Go.Proofs.Ytndbihaffijhbaa.walk
namespace Go.Proofs.Ytndbihaffijhbaa.mdie
open Go.RowKit
def Die (b : Nat) (w : World) : Prop := ∃ s, w.heap[b]? = some (.cells #[.int .u64 s] 69 (0, 0))
theorem Die.old {b : Nat} {w : World} (h : Die b w) : (∃ s, w.cell? ⟨b, 0, none⟩ = some (.int .u64 s)) ∧ w.frozen? ⟨b, 0, none⟩ = false := by
 obtain ⟨s, hs⟩ := h
 refine ⟨⟨s, ?_⟩, ?_⟩
 ·unfold World.cell?; simp [hs]
 ·unfold World.frozen?; simp [hs]
structure Stir (b : Nat) (w w' : World) : Prop where
 below : Below b w w'
 rest : ∀ p : Addr, p.block ≠ b → p.block < w.heap.size → w'.cell? p = w.cell? p ∧ w'.frozen? p = w.frozen? p
 die : Die b w'
def Gives (b : Nat) (k : IntKind) (Q : Int → Prop) (w : World) (e : Ending) (w' : World) : Prop := ∃ r, Q r ∧ e = .returned (.int k r) ∧ Stir b w w'
theorem bits_nonneg (op : BinOp) (x y : Int) : 0 ≤ bits op .u64 x y := by
 have := bounds_u64 (wf_bits (k := .u64) (op := op) (x := x) (y := y))
 exact this.1
theorem Stir.set {b : Nat} {w : World} (h : Die b w) (s : Int) : Stir b w (w.setCell ⟨b, 0, none⟩ (.int .u64 s)) := by
 obtain ⟨t, ht⟩ := h
 refine ⟨(Below.refl b w).setCell (p := ⟨b, 0, none⟩) (Nat.le_refl b) _, fun p hp _ => ⟨World.cell?_of_block (Below.heap_setCell _ _ _ _ hp), World.frozen?_of_block (Below.heap_setCell _ _ _ _ hp)⟩, ⟨s, ?_⟩⟩
 unfold World.setCell
 simp [Array.getElem?_modify, ht]
theorem roll (b : Nat) (w : World) (h : Die b w) : Calls Try.prog 26 #[.pointer (some ⟨b, 0, none⟩)] w (Gives b .u64 (fun r => 0 ≤ r) w) := by
 have h' := Lib.hid h
 obtain ⟨⟨s, hs⟩, hf⟩ := h.old
 clear h
 go_enter Try.func26, Try.ntmps26
 go_wp2
 go_ret
 exact ⟨_, bits_nonneg _ _ _, rfl, Stir.set h'.out _⟩
theorem Stir.refl {b : Nat} {w : World} (h : Die b w) : Stir b w w := ⟨Below.refl _ _, fun _ _ _ => ⟨rfl, rfl⟩, h⟩
theorem Stir.trans {b : Nat} {u v w : World} (h : Stir b u v) (k : Stir b v w) : Stir b u w :=
 ⟨h.below.trans k.below, fun p hp hb => ⟨(k.rest p hp (Nat.lt_of_lt_of_le hb h.below.size)).1.trans (h.rest p hp hb).1, (k.rest p hp (Nat.lt_of_lt_of_le hb h.below.size)).2.trans (h.rest p hp hb).2⟩, k.die⟩
theorem Die.lt {b : Nat} {w : World} (h : Die b w) : b < w.heap.size := by obtain ⟨⟨s, hs⟩, _⟩ := h.old; exact World.block_lt_of_cell? w _ hs
theorem Stir.drew {b : Nat} {w w' : World} (h : Stir b w w') : Stir b w w'.drew := h.trans ⟨⟨rfl, rfl, rfl, Nat.le_refl _, fun _ _ => rfl⟩, fun _ _ _ => ⟨rfl, rfl⟩, h.die⟩
def Born (w : World) (e : Ending) (w' : World) : Prop := e = .returned (.pointer (some ⟨w.heap.size, 0, none⟩)) ∧ Below w.heap.size w w' ∧ Die w.heap.size w' ∧ w.heap.size < w'.heap.size
theorem Die.born (w : World) (s : Int) : Die w.heap.size (w.alloc (.cells #[.int .u64 s] 69)) := ⟨s, by show (w.heap.push _)[w.heap.size]? = _; rw [Array.getElem?_push, if_pos rfl]⟩
set_option maxRecDepth 100000 in
theorem born (x : Option Addr) (n c : Nat) (w : World) (hn : n ≤ maxLen) (hc : ∀ i, i < n → ∃ b o, x = some ⟨b, o, none⟩ ∧ ∃ v, w.cell? ⟨b, o + i, none⟩ = some (.int .i64 v)) :
  Calls Try.prog 6 #[.slice x n c] w (Born w) := by
 unfold maxLen at hn
 have HC := Lib.hid hc
 clear hc
 have hdie := Lib.hid (Die.born w 2611923443488327891)
 go_enter Try.func6, Try.ntmps6
 go_wp2
 go_loopw [4] (fun i wr => ∃ k : Nat, k ≤ n ∧ i = .int .i64 k ∧ Stir w.heap.size (w.alloc (.cells #[.int .u64 2611923443488327891] 69)) wr) (fun i _ => n - (intOf i).toNat)
 case atStart => exact ⟨0, Nat.zero_le _, rfl, Stir.refl hdie.out⟩
 case round =>
  obtain ⟨k, hk, rfl, hs⟩ := hrel
  by_cases hlt : k < n
  ·obtain ⟨b, o, rfl, v, hv⟩ := HC.out k hlt
   have hb := World.block_lt_of_cell? _ _ hv
   simp only at hb
   have hv1 : wr.cell? ⟨b, o + k, none⟩ = some (.int .i64 v) := ((hs.rest ⟨b, o + k, none⟩ (Nat.ne_of_lt hb) (by simp; omega)).1.trans (World.cell?_of_block (Below.heap_alloc _ _ _ hb))).trans hv
   clear hv
   obtain ⟨⟨s, hd⟩, hf⟩ := hs.die.old
   have hst := Lib.hid (fun s1 : Int => (hs.drew).trans (Stir.set hs.drew.die s1))
   have hlt' : (k : Int) < (n : Int) := by omega
   have hk0 : (0 : Int) ≤ (k : Int) := by omega
   go_wp2
   go_still_tail 12, (by kernel_rfl)
   change wpList _ _ _ _ _ wr.drew
   go_wp2_with (go_at_call 26; refine (roll _ _ ?_).mono ?_; exact (hst.out _).die; rintro e w1 ⟨r, hr, rfl, hs1⟩; (have hs2 := (hst.out _).trans hs1))
   go_roundw
   case rel => exact ⟨k + 1, by omega, by go_num, hs2⟩
   case measure => simp [intOf]; omega
  ·go_wp2
   go_ret
   exact ⟨rfl, ((Below.refl w.heap.size w).alloc (Nat.le_refl _) _).trans hs.below, hs.die, by have := hs.below.size; simp at this; omega⟩
end Go.Proofs.Ytndbihaffijhbaa.mdie
namespace Go.Abs
open Go.RowKit
variable {P : Program}
theorem mid_calls {cl : CallF} (hc : CallSound P cl) {f : FuncId} {fn : Func} (hf : P.funcs[f]? = some fn) {c0 c1 rest : Code} (hb : fn.body = some (.seq c0 (.seq c1 rest))) {X : FuncId → List Nat} {k : K} {A : Array Value} {W : World} {R : Ending → World → Prop}
  (h : c0.wp P (Exit.then (fun a w => c1.wp P (Exit.then (fun a w => ∃ ρ L s v s', ActRel ρ fn.ntmps L [] a ∧ Clean (X f) L ∧ SRel ρ s w ∧ finA P fn (k cl ⟨f, none, fn.ntmps, X f⟩ L [] s) = .val v s' ∧ ∀ ρ' V W', After ρ s w ρ' s' W' → VRel ρ' v V → R (.returned V) W') fun _ _ _ => False) a w) fun _ _ _ => False)
   { tmps := A ++ Array.replicate (fn.ntmps - A.size) undef, defers := [] } W)
  (hk : codeK P (X f) fn.ntmps rest = some k) : Calls P f A W R := by
 intro cs
 obtain ⟨b, hbd⟩ : ∃ b : Frame, b = { (default : Frame) with fn := f, kind := .normal } := ⟨_, rfl⟩
 have hr : b.roundOf = none := by rw [hbd]; rfl
 have henter : Frame.enter P f A .normal = b.at { tmps := A ++ Array.replicate (fn.ntmps - A.size) undef, defers := [] } [.code (.seq c0 (.seq c1 rest))] := by
  rw [hbd]; simp [Frame.enter, Frame.at, hf, hb]
 obtain ⟨e0, a0, w0, q0, ar0⟩ := h b [.code (.seq c1 rest)] cs
 cases e0 <;> simp only [Exit.then] at q0
 obtain ⟨e1, a1, w1, q1, ar1⟩ := q0 b [.code rest] cs
 cases e1 <;> simp only [Exit.then] at q1
 obtain ⟨ρ, L, s, v, s', hact, hclean, hs, hfin, hR⟩ := q1
 have st1 : Steps P (lone (Frame.enter P f A .normal) cs W) (lone (b.atR a1 [.code rest]) cs w1) := by
  rw [henter, Frame.atR_of_none hr]
  exact (Steps.head step_seq ar0).trans (Steps.head step_seq ar1)
 have hctx : CtxRel ρ ⟨f, none, fn.ntmps, X f⟩ b := ⟨by rw [hbd], by rw [hbd], fun _ => hr, fun l e => by cases e⟩
 generalize hr2 : k cl ⟨f, none, fn.ntmps, X f⟩ L [] s = r at hfin
 cases r with
 | fail => cases hfin
 | done e L1 d s₁ =>
  obtain ⟨ρ₁, a₁, W₁, af, ha₁, _, _, st⟩ := codeK_sound rest hk hc rfl rfl hctx hact hclean hs hr2
  have fin : ∀ (hle : leaveA P fn.results.toList L1 d s₁ = .val v s') (hst : ∃ t, Steps P (lone (Frame.enter P f A .normal) cs W) (lone (back b a₁ t) cs W₁)),
    ∃ V w' fr, R (.returned V) w' ∧ Steps P (lone (Frame.enter P f A .normal) cs W) (lone fr cs w') ∧ fr.fn = f ∧ fr.leaving P w' (.returned V) := by
   intro hle hst
   obtain ⟨V, W₂, af₂, hv, st₂⟩ := leaveA_calls ha₁ af.rel hle
   obtain ⟨t, st₁⟩ := hst
   obtain ⟨fr, h1, h2, h3⟩ := st₂ b (by rw [hbd]) (by rw [hbd]; exact hf) t cs
   exact ⟨V, W₂, fr, hR _ _ _ (af.trans af₂) hv, Steps.trans st₁ h1, by rw [h2, hbd], h3⟩
  cases e with
  | exit id => cases hfin
  | norm =>
   have z := st [] cs
   obtain ⟨V, w', fr, h1, h2, h3, h4⟩ := fin hfin ⟨[], st1.trans (Steps.trans z (.one (stepR_end hr)))⟩
   exact ⟨.returned V, w', fr, h1, h2, h3, h4⟩
  | ret =>
   obtain ⟨k0, z⟩ := st [] cs
   obtain ⟨V, w', fr, h1, h2, h3, h4⟩ := fin hfin ⟨.code .ret :: k0, st1.trans (z.trans (.one (stepR_ret hr)))⟩
   exact ⟨.returned V, w', fr, h1, h2, h3, h4⟩
end Go.Abs
set_option maxRecDepth 10000
namespace Go.Proofs.Ytndbihaffijhbaa.walk
open Go.Abs Go.RowKit Go.Proofs.Ytndbihaffijhbaa.code
noncomputable def die0 (F : Int) : St := St.new ⟨.nil, 0, far⟩ (.cells [.int .u64 F] (tag 69))
def rho0 (d : Nat) : Rho := fun b => if b = 0 then some (d, (0, 0)) else none
theorem die0_get {F : Int} {b : Nat} {o : AObj} (h : (die0 F).h.get b = some o) : b = 0 ∧ o = .cells [.int .u64 F] (tag 69) := by
 by_cases e : b = 0
 ·subst e
  have : (die0 F).h.get 0 = some (.cells [.int .u64 F] (tag 69)) := get_new_eq _ _ _ rfl (by decide)
  rw [this] at h
  exact ⟨rfl, (Option.some.inj h).symm⟩
 ·unfold die0 at h
  rw [get_new_ne _ _ _ e] at h
  cases h
theorem die0_has {F : Int} {b x : Nat} {o : AObj} (h : Has (die0 F).h b x o) : b = 0 ∧ x = 0 ∧ o = .cells [.int .u64 F] (tag 69) := by
 obtain ⟨y, hy, hp⟩ := h
 obtain ⟨rfl, rfl⟩ := die0_get hy
 have hl : AObj.lone (.cells [.int .u64 F] (tag 69)) := trivial
 rw [parts_lone hl] at hp
 have := List.mem_singleton.mp hp
 cases this
 exact ⟨rfl, rfl, rfl⟩
theorem die0_rel {F : Int} {d : Nat} {W : World} (h : W.heap[d]? = some (.cells #[.int .u64 F] 69 (0, 0))) : SRel (rho0 d) (die0 F) W := by
 refine ⟨⟨fun b o hb => ?_, fun b x o hb => ?_, fun b b' x x' o o' c e e' hb hb' _ _ => ?_, fun g cs hg => (by cases hg), fun b x o c e hb hr => rfl, fun b x x' o o' c e e' hb hb' hr hr' => ?_⟩, fun b hb => ?_⟩
 ·rw [(die0_get hb).1]; decide
 ·obtain ⟨rfl, rfl, rfl⟩ := die0_has hb
  exact ⟨d, (0, 0), _, if_pos rfl, h, .cells rfl (.cons (.int _ _) .nil) (Typed.tag _)⟩
 ·rw [(die0_has hb).1, (die0_has hb').1]
 ·obtain ⟨_, rfl, _⟩ := die0_has hb
  obtain ⟨_, rfl, _⟩ := die0_has hb'
  rw [hr] at hr'
  cases hr'
  rfl
 ·have : 1 ≤ b := hb
  exact if_neg (by omega)
end Go.Proofs.Ytndbihaffijhbaa.walk
set_option maxRecDepth 10000
namespace Go.Proofs.Ytndbihaffijhbaa.walk
open Go.Abs Go.RowKit Go.Proofs.Ytndbihaffijhbaa.code
set_option maxRecDepth 100000 in
theorem tru_calls (a : Option Addr) (n c : Nat) (w : World) (hn : n ≤ maxLen) (hc : ∀ i, i < n → ∃ b o, a = some ⟨b, o, none⟩ ∧ ∃ v, w.cell? ⟨b, o + i, none⟩ = some (.int .i64 v)) :
  Calls Try.prog 3 #[.slice a n c] w fun e w' => e = .returned (.bool true) ∧ Below w.heap.size w w' := by
 have HC := Lib.hid hc
 clear hc
 refine mid_calls (cl := knows 19 (call Try.prog X 20)) (knows_sound (call_sound 200) Try.func19 awake.entered (call_sound 20)) Try.func3 rfl (X := X) (k := truRest) ?_ (by kernel_rfl)
 simp only [Try.ntmps3, List.size_toArray, List.length_cons, List.length_nil, Nat.reduceAdd, Nat.reduceSub, Array.replicate_succ, Array.replicate_zero, List.push_toArray, List.append_toArray, List.nil_append, List.cons_append]
 go_wp2_with (go_at_call 6; ((with_reducible refine (mdie.born _ _ _ _ hn HC.out).mono ?_); rintro e w1 ⟨rfl, hB1, ⟨F, hF⟩, hg1⟩))
 have hd0 : walk.Die 0 (die0 F).h := ⟨F, get_new_eq _ _ _ rfl (by decide)⟩
 obtain ⟨s', hs'⟩ := tru_body 20 (by omega) ⟨3, none, Try.f3.ntmps, X 3⟩ (die0 F) 0 hd0 (by show 0 < 1; omega) (by show 1 + 9000000 ≤ 1000000000; omega) rfl
 refine ⟨rho0 w.heap.size, .cons 3 (.ptr 0 0) .nil, die0 F, .bool true, s', ⟨fun t => ?_, rfl, .nil⟩, fun t ht => ?_, die0_rel hF, hs', fun ρ' V W' af hv => ?_⟩
 ·by_cases e : t = 3
  ·subst e
   exact .ptr (e := (0, 0)) (if_pos rfl)
  ·rw [show (Env.cons 3 (.ptr 0 0) .nil).find t = AV.bad by rw [find_cons, if_neg (by omega)]; rfl]
   exact .bad _
 ·by_cases e : t = 3
  ·subst e
   have hx : (X 3).contains 3 = true := by kernel_rfl
   rw [hx] at ht
   cases ht
  ·rw [find_cons, if_neg (by omega)]; rfl
 ·cases hv
  refine ⟨rfl, hB1.trans ⟨af.os, af.tape, af.output, af.size, fun k hk => af.frame k (by omega) fun b x o e hb hr => ?_⟩⟩
  obtain ⟨_, rfl, _⟩ := die0_has hb
  have hr : some (w.heap.size, (0, 0)) = some (k, e) := hr
  injection hr with hr
  injection hr with hr _
  omega
end Go.Proofs.Ytndbihaffijhbaa.walk
