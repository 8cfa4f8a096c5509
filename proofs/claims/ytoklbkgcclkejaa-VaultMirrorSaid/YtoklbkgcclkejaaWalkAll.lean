/- The equations of the walks, bundled. -/
import Derived.Test.YtoklbkgcclkejaaAbsWalk
set_option maxRecDepth 100000
set_option linter.defProp false
namespace Go.Abs
def walk0:=And.intro @wV (And.intro @vO (And.intro @thenK_ret (And.intro @thenK_exit (And.intro @kRegion_def (And.intro @regR_ok (And.intro @kRegionD_def (And.intro @kCond_def (And.intro @condK_true (And.intro @condK_false (And.intro @kBlock_def (And.intro @blkR_norm (And.intro @blkR_ret (And.intro @blkR_exit (And.intro @kExit_def @kRet_def))))))))))))))
def walk1:=And.intro @kSkip_def (And.intro @oNil_def (And.intro @oVal_def (And.intro @oCall_def (And.intro @thenO_val (And.intro @oCallT_def (And.intro @oIf_def (And.intro @ifO_tt (And.intro @ifO_ff (And.intro @ifO_tf (And.intro @ifO_ft (And.intro @ifO_none (And.intro @oSkip_def (And.intro @oEnd_def (And.intro @endO_nil @callV_func))))))))))))))
def walk2:=And.intro @callV_yield (And.intro @ev_tmp (And.intro @ev_con (And.intro @JR (And.intro @ga (And.intro @put_tmp (And.intro @put_none (And.intro @zK (And.intro @set_cons (And.intro @set_nil (And.intro @keepK_nil (And.intro @keepK_cons (And.intro @params_nil (And.intro @params_cons (And.intro @kMove_def @kUn_def))))))))))))))
def walk3:=And.intro @kTwo_def (And.intro @kPick_def (And.intro @pickA_true (And.intro @pickA_false (And.intro @kInt_def (And.intro @ints_i64 (And.intro @ints_u64 (And.intro @kGtr_def (And.intro @onInt_int (And.intro @gtrA_i64 (And.intro @aLss_def (And.intro @aLeq_def (And.intro @aGeq_def (And.intro @aEql_def (And.intro @aNeq_def @lenSl_slice))))))))))))))
def walk4:=And.intro @lenSl_nil (And.intro @notA_def (And.intro @nilA_ptr (And.intro @fadA_ptr (And.intro @kLoad_def (And.intro @partS_one (And.intro @okA_int (And.intro @okA_bool (And.intro @okA_ptr (And.intro @okA_slice (And.intro @okA_nils (And.intro @okA_agg (And.intro @finA_ret (And.intro @finA_norm (And.intro @leave_tmp @kStore_def))))))))))))))
def walk5:=And.intro @kAlloc_def (And.intro @kBox_def (And.intro @boxA_agg (And.intro @boxA_slice (And.intro @kBuildSlice_def (And.intro @sliceO_some (And.intro @kBuild_def (And.intro @aggR_some (And.intro @fillD_some (And.intro @fillC_some (And.intro @fillA_nil (And.intro @fillA_cons (And.intro @cellsOf_int (And.intro @cellsOf_slice (And.intro @cellsOf_nils @cellsOf_agg))))))))))))))
def walk6:=And.intro @Jq (And.intro @over1_nil (And.intro @YO (And.intro @consO_some (And.intro @wT (And.intro @ve (And.intro @aggO_some (And.intro @ZW (And.intro @vn (And.intro @JB (And.intro @vt (And.intro @vg (And.intro @zM (And.intro @zH (And.intro @zN @zL))))))))))))))
def walk7:=And.intro @store_ptr (And.intro @YI (And.intro @storeC_some (And.intro @storeO_some (And.intro @regD_ok (And.intro @yG (And.intro @storeB_true (And.intro @scal_nil (And.intro @scal_int (And.intro @scal_bool (And.intro @scal_ptr (And.intro @scal_slice (And.intro @scal_nils @scal_func))))))))))))
def walk8:=And.intro @kLoop_def (And.intro @decide_true (And.intro @decide_false (And.intro @efs (And.intro @List.nil_append.{0} (And.intro @List.append_nil.{0} (And.intro @List.cons_append.{0} (And.intro @Bool.not_true (And.intro @Bool.not_false (And.intro @List.length_cons.{0} @List.length_nil.{0})))))))))
def W:=And.intro walk0 (And.intro walk1 (And.intro walk2 (And.intro walk3 (And.intro walk4 (And.intro walk5 (And.intro walk6 (And.intro walk7 walk8)))))))
theorem eq3 {f g:zR → Env → St → ORes} (h:f=g) (cl:zR) (L:Env) (s:St):f cl L s=g cl L s:=by rw [h]
theorem hfar:far=1000000000:=rfl
end Go.Abs
