/- The law VaultStronger, as a contract of the model. -/
import Derived.Test.YtoklbkgcclkejaaM10
import Derived.Test.YtoklbkgcclkejaaAwake
import Derived.Test.YtoklbkgcclkejaaWalkAll
set_option linter.unusedSimpArgs false
set_option linter.unusedVariables false
set_option maxHeartbeats 16000000
set_option linter.unusedVariables false
set_option maxRecDepth 10000
namespace Go.Proofs.Ytoklbkgcclkejaa.walk
open Go.Abs Go.RowKit Go.Proofs.Ytoklbkgcclkejaa.code
set_option maxRecDepth 100000 in
theorem vst_calls (a:Option Addr) (n c:Nat) (w:World) (hn:n≤maxLen) (hc:∀ i,i<n→∃ b o,a=some ⟨b,o,none⟩∧∃ v,w.cell? ⟨b,o+i,none⟩=some (.int .i64 v)) :
  Calls Try.prog 8 #[.slice a n c] w fun e w'=>e=.returned (.bool true)∧Below w.heap.size w w':=by
 have HC:=Lib.hid hc
 clear hc
 refine mid_calls (cl:=knows 19 (call Try.prog X 40)) (knows_sound (YT 200) Try.func19 awake.entered (YT 40)) Try.func8 rfl (X:=X) (k:=vstRest) ?_ (by kernel_rfl)
 simp only [Try.ntmps8,List.size_toArray,List.length_cons,List.length_nil,Nat.reduceAdd,Nat.reduceSub,Array.replicate_succ,Array.replicate_zero,List.push_toArray,List.append_toArray,List.nil_append,List.cons_append]
 go_wp2_with (go_at_call 10;((with_reducible refine (mdie.born _ _ _ _ hn HC.out).mono ?_);rintro e w1 ⟨rfl,hB1,⟨F,hF⟩,hg1⟩))
 have hd0:walk.Die 0 (die0 F).h:=⟨F,zM _ _ _ rfl (by decide)⟩
 obtain ⟨s',hs'⟩:=vst_body 40 (by omega) ⟨8,none,Try.f8.ntmps,X 8⟩ (die0 F) 0 hd0 (by show 0<1;omega) (by show 1+900000000≤1000000000;omega) rfl
 refine ⟨rho0 w.heap.size,.cons 3 (.ptr 0 0) .nil,die0 F,.bool true,s',⟨fun t=>?_,rfl,.nil⟩,fun t ht=>?_,die0_rel hF,hs',fun ρ' V W' af hv=>?_⟩
 ·by_cases e:t=3
  ·subst e
   exact .ptr (e:=(0,0)) (if_pos rfl)
  ·rw [show (Env.cons 3 (.ptr 0 0) .nil).find t=AV.bad by rw [zJ,if_neg (by omega)];rfl]
   exact .bad _
 ·by_cases e:t=3
  ·subst e
   have hx:(X 8).contains 3=true:=by kernel_rfl
   rw [hx] at ht
   cases ht
  ·rw [zJ,if_neg (by omega)];rfl
 ·cases hv
  refine ⟨rfl,hB1.trans ⟨af.os,af.tape,af.output,af.size,fun k hk=>af.frame k (by omega) fun b x o e hb hr=>?_⟩⟩
  obtain ⟨_,rfl,_⟩:=Jo hb
  have hr:some (w.heap.size,(0,0))=some (k,e):=hr
  injection hr with hr
  injection hr with hr _
  omega
end Go.Proofs.Ytoklbkgcclkejaa.walk
