/- A call whose run is proved in pieces is told to the run that makes it. -/
import Derived.Test.YtlnklmphfbapdaaDoorAbsPiece
noncomputable section
namespace Go.Abs
open Go.RowKit
variable {P : Program}

/-- Whether two blocks are the same. -/
def eqOb : Option AObj → Option AObj → Bool
  | none, none => true
  | some a, some b => sameO (some a) (some b)
  | _, _ => false
def eqH : Heap → Heap → Bool
  | .nil, .nil => true
  | .node l v r, .node l' v' r' => match eqOb v v' with
    | true => match eqH l l' with
      | true => eqH r r'
      | false => false
    | false => false
  | _, _ => false
theorem eqOb_same {a b : Option AObj} (h : eqOb a b = true) : a = b := by
  unfold eqOb at h
  split at h
  · rfl
  · exact sameO_eq h
  · cases h
theorem eqH_same : ∀ {a b : Heap}, eqH a b = true → a = b
  | .nil, .nil, _ => rfl
  | .nil, .node _ _ _, h => by cases h
  | .node _ _ _, .nil, h => by cases h
  | .node l v r, .node l' v' r', h => by
    unfold eqH at h
    split at h
    · rename_i hv
      split at h
      · rename_i hl
        rw [eqOb_same hv, eqH_same hl, eqH_same h]
      · cases h
    · cases h
def eqSt (s t : St) : Bool := match Nat.beq s.n t.n with
  | true => match Nat.beq s.m t.m with
    | true => eqH s.h t.h
    | false => false
  | false => false
theorem eqSt_same {s t : St} (h : eqSt s t = true) : s = t := by
  obtain ⟨a, b, c⟩ := s
  obtain ⟨a', b', c'⟩ := t
  unfold eqSt at h
  split at h
  · rename_i h1
    split at h
    · rename_i h2
      have h1 := Nat.eq_of_beq_eq_true h1
      have h2 := Nat.eq_of_beq_eq_true h2
      have h3 := eqH_same h
      simp only at h1 h2 h3
      rw [h1, h2, h3]
    · cases h
  · cases h

/-- A call that is known is not run again. -/
def tells (f0 : Nat) (a0 : List AV) (s0 : St) (v0 : AV) (t0 : St) (cl : CallF) : CallF
  | .fn g, args, s => match Nat.beq g f0 with
    | true => match eqVs args a0 with
      | true => match eqSt s s0 with
        | true => .val v0 t0
        | false => cl (.fn g) args s
      | false => cl (.fn g) args s
    | false => cl (.fn g) args s
  | .yield l, args, s => cl (.yield l) args s
theorem tells_of {f0 : Nat} {a0 : List AV} {s0 : St} {v0 : AV} {t0 : St} {cl : CallF} (h0 : cl (.fn f0) a0 s0 = .val v0 t0) {t : ATarget} {l : List AV} {s : St} {v : AV} {s' : St} (h : tells f0 a0 s0 v0 t0 cl t l s = .val v s') : cl t l s = .val v s' := by
  unfold tells at h
  split at h
  · split at h
    · rename_i h1
      split at h
      · rename_i h2
        split at h
        · rename_i h3
          rw [Nat.eq_of_beq_eq_true h1, eqVs_same h2, eqSt_same h3, h0]; exact h
        · exact h
      · exact h
    · exact h
  · exact h
theorem tells_sound {f0 : Nat} {a0 : List AV} {s0 : St} {v0 : AV} {t0 : St} {cl : CallF} (hc : CallSound P cl) (h0 : cl (.fn f0) a0 s0 = .val v0 t0) : CallSound P (tells f0 a0 s0 v0 t0 cl) where
  fr := fun t l s v s' h => hc.fr t l s v s' (tells_of h0 h)
  fn := fun f l s v s' ρ W A h => hc.fn f l s v s' ρ W A (tells_of h0 h)
  yield := fun b c e l s v s' ρ W A h => hc.yield b c e l s v s' ρ W A (tells_of h0 h)

/-- A call of whatever kind, from the run of its pieces. -/
theorem enter_of {X : FuncId → List Nat} {cl : CallF} {f : FuncId} {fn : Func} {args : List AV} {s : St} {v : AV} {s' : St} (hn : (fn.name == "runtime.NumGoroutine") = false) {b : Code} (hb : fn.body = some b) {k : K} (hk : codeK P (X f) fn.ntmps b = some k)
    (b1 : Nat.ble args.length fn.ntmps = true) (b2 : Nat.ble args.length (lead (X f) 100 0) = true) (h : endR P fn (runL P cl (ctxOf X f fn) (bodyOf fn) (paramsEnv 0 args .nil) s) = .val v s') : enterA P X cl f args s fn = .val v s' := by
  unfold enterA
  unfold bodyOf at h
  rw [hb] at h ⊢
  simp only [hn, Bool.false_eq_true, if_false] at h ⊢
  generalize hq : runL P cl (ctxOf X f fn) (flat b) (paramsEnv 0 args .nil) s = q at h
  cases q with
  | fail => cases h
  | done e L d s₁ =>
    cases d with
    | cons x y => exact absurd hq (fun z => runL_bare _ _ _ z)
    | nil =>
      have hc := runL_flat b ⟨k, hk⟩ hq
      unfold runC at hc
      have hk' : codeK P (ctxOf X f fn).xs (ctxOf X f fn).nt b = some k := hk
      rw [hk'] at hc
      have hc : k cl ⟨f, none, fn.ntmps, X f⟩ (paramsEnv 0 args .nil) [] s = .done e L [] s₁ := hc
      simp only [b1, b2, hk]
      show (match k cl ⟨f, none, fn.ntmps, X f⟩ (paramsEnv 0 args .nil) [] s with
        | .done .norm L d s => leaveA P fn.results.toList L d s
        | .done .ret L d s => leaveA P fn.results.toList L d s
        | _ => ARes.fail) = _
      rw [hc]
      cases e with
      | exit id => cases h
      | norm => exact h
      | ret => exact h
theorem step_of {X : FuncId → List Nat} {cl : CallF} {f : FuncId} {fn : Func} {args : List AV} {s : St} {v v' : AV} {s' t : St} (hf : P.funcs[f]? = some fn) (he : enterA P X cl f args ⟨s.h, s.n, far⟩ fn = .val v s') (hs : settle s (.val v s') = .val v' t) : callStep P X cl (.fn f) args s = .val v' t := by
  show (match P.funcs[f]? with
    | none => ARes.fail
    | some fn => orFork (settle s (enterA P X cl f args ⟨s.h, s.n, far⟩ fn)) (forkA P X cl f s fn args)) = _
  rw [hf]
  simp only [he, hs]
  rfl

/-- A run of code in steps, up to a value. -/
def Ends (P : Program) (X : FuncId → List Nat) (cl : CallF) (f : FuncId) (fn : Func) (l : List Code) (L : Env) (s : St) (v : AV) (s' : St) : Prop := endR P fn (runL P cl (ctxOf X f fn) l L s) = .val v s'
theorem Ends.step {X : FuncId → List Nat} {cl : CallF} {f : FuncId} {fn : Func} (k : Nat) {l : List Code} {L L' : Env} {s s1 : St} {v : AV} {s' : St} (h : runL P cl (ctxOf X f fn) (l.take k) L s = .done .norm L' [] s1)
    (hg : Ends P X cl f fn (l.drop k) L' s1 v s') : Ends P X cl f fn l L s v s' := by
  have e : runL P cl (ctxOf X f fn) l L s = runL P cl (ctxOf X f fn) (l.drop k) L' s1 := by
    conv => lhs; rw [← List.take_append_drop k l]
    rw [runL_append, h]; rfl
  unfold Ends
  rw [e]; exact hg
theorem Ends.loop {X : FuncId → List Nat} {cl : CallF} {f : FuncId} {fn : Func} (m n : Nat) {l : List Code} {L L1 L' : Env} {s s1 s' : St} {v : AV} {t : St} (hi : isLoop l = true) (hmn : Nat.ble (m + n) rounds = true)
    (h1 : runRounds P cl (ctxOf X f fn) m l L s = .done .norm L1 [] s1) (h2 : runLoop P cl (ctxOf X f fn) n l L1 s1 = .done .norm L' [] s')
    (hg : Ends P X cl f fn (l.drop 1) L' s' v t) : Ends P X cl f fn l L s v t := by
  cases l with
  | nil => cases hi
  | cons x r =>
    unfold isLoop at hi
    split at hi
    case h_2 => cases hi
    rename_i id b _ heq
    cases heq
    refine Ends.step 1 ?_ hg
    show runL P cl (ctxOf X f fn) [.block id (.loop b)] L s = _
    rw [runL_cons]
    have hb : runC P cl (ctxOf X f fn) (.block id (.loop b)) L s = .done .norm L' [] s' := by
      unfold runRounds at h1
      unfold runLoop at h2
      split at h1
      case h_2 => cases h1
      rename_i k hk
      rw [hk] at h2
      have hk : codeK P (ctxOf X f fn).xs (ctxOf X f fn).nt b = some k := hk
      unfold runC
      have hc : codeK P (ctxOf X f fn).xs (ctxOf X f fn).nt (.block id (.loop b)) = some (kBlock id (kLoop k)) := by
        unfold codeK; unfold codeK; rw [hk]
      rw [hc]
      refine block_of (a := loopN k n) (fun e L2 q2 s2 h => ?_) (show kBlock id (loopN k n) cl (ctxOf X f fn) L1 [] s1 = .done .norm L' [] s' from h2)
      have hmn := Nat.le_of_ble_eq_true hmn
      have h3 := loopN_more (rounds - (m + n)) h
      have h4 := loopN_rounds (n := n + (rounds - (m + n))) m h1
      rw [show m + (n + (rounds - (m + n))) = rounds from by omega] at h4
      exact h4.trans h3
    rw [hb]
    rfl
end Go.Abs
end
