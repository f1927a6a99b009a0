/-
 For every plot that may be, every key, every change, every two bounds and every limit from -10,000 to 10,000, the texts together no longer than the law allows: the plot's values are what the document says, told, scanned and changed, and the plot that was given is as it was (P9.5): deed.Get, Scan and Set, given copies of their own, answer as the document's own do. Conditions: none beyond what the row's form asks of arguments (lengths that a memory can hold) and of the five variables of Go's own library, laid and tied by the card.
-/
import Derived.Test.YthcmnkmfhgoddaaGreatDoorKDpLA
import Derived.Test.YthcmnkmfhgoddaaGreatDoorKDpLawV
import Derived.Test.YthcmnkmfhgoddaaGreatDoorKMbFacts7
namespace Go.Proofs.YthcmnkmfhgoddaaGreatDoor
open Go.ChangeShapes Go.WideShapes Go.ChangeAt Go.RowKit
open Go.ChangeMaps (open_string shut_string)
namespace ofDeedPairs
theorem reads (os : Os) {H : Type} (enc : TypeId × Value -> H) : ∃ places, DataW.whole enc Tryz.prog ((World.doorLaid Tryz.prog 400 os).forCall (fun _ _ => 0) ⟨#[], #[.agg #[.int .i64 0, .string ⟨#[]⟩, .string ⟨#[]⟩, .int .i64 0, .slice none 0 0, .int .i64 0, .slice none 0 0, .slice none 0 0, .bool false, .slice none 0 0, .int .i64 0], .string ⟨#[]⟩, .agg #[.string ⟨#[]⟩, .string ⟨#[]⟩, .bool false], .string ⟨#[]⟩, .string ⟨#[]⟩, .int .i64 0], []⟩).memory Tryz.f7.params.toList Rows.deedPairsSpec.vars false #[Value.agg #[.int .i64 0, .string ⟨#[]⟩, .string ⟨#[]⟩, .int .i64 0, .slice none 0 0, .int .i64 0, .slice none 0 0, .slice none 0 0, .bool false, .slice none 0 0, .int .i64 0], .string ⟨#[]⟩, .agg #[.string ⟨#[]⟩, .string ⟨#[]⟩, .bool false], .string ⟨#[]⟩, .string ⟨#[]⟩, .int .i64 0].toList 8 = some ([.agg [.agg [.lit (.int .i64 0), .agg [.lit (.string []), .lit (.string [])], .lit (.int .i64 0), .nil, .lit (.int .i64 0)], .nil, .nil, .lit (.bool false), .nil, .lit (.int .i64 0)], .lit (.string []), .agg [.lit (.string []), .lit (.string []), .lit (.bool false)], .lit (.string []), .lit (.string []), .lit (.int .i64 0)], [], places) :=
 ⟨[], by kernel_rfl⟩
set_option maxRecDepth 100000 in
theorem lifted (os : Os) (started : os.Started) (H : Type) (enc : TypeId × Value -> H) (F : Stop.Interp) :
  ReturnsInHanded {} Tryz.checked os 7 .any ((OpenSpec.ofChange Rows.deedPairsSpec).preRow enc Tryz.prog Tryz.f7 Rows.deedPairsRow.domain false Rows.deedPairsRow.laid) (((OpenSpec.ofChange Rows.deedPairsSpec).at F).post enc Tryz.prog Tryz.f7 false true false false) := by
 obtain ⟨places, hx⟩ := reads os enc
 refine returnsInHanded_of_row (C := Tryz.checked) (s := OpenSpec.ofChange Rows.deedPairsSpec) own started (by kernel_rfl) Tryz.func7
  (witness_row_atRef (enc := enc) (C := Tryz.checked) false (World.doorLaid Tryz.prog 400 os) #[.agg #[.int .i64 0, .string ⟨#[]⟩, .string ⟨#[]⟩, .int .i64 0, .slice none 0 0, .int .i64 0, .slice none 0 0, .slice none 0 0, .bool false, .slice none 0 0, .int .i64 0], .string ⟨#[]⟩, .agg #[.string ⟨#[]⟩, .string ⟨#[]⟩, .bool false], .string ⟨#[]⟩, .string ⟨#[]⟩, .int .i64 0] rfl (by kernel_rfl) (by kernel_rfl) (by kernel_rfl)
   (OpenSpec.preRow_of_cond 8 hx (by kernel_rfl) (fun k hk => by cases hk) (by kernel_rfl) (door_met os _))) ?_
 intro W base args ds gs before hval0 hW _ _ hsz0 hL hsh _
 have hsz : (DataW.weightsEach Tryz.prog (Tryz.f7.params.toList ++ Rows.deedPairsSpec.plain.varTypes Tryz.prog) (ds ++ gs)).all (· <= reachBytes) = true := hsz0
 clear hsz0
 have hval : ∀ (j : Nat) t v, Tryz.f7.params[j]? = some t -> args[j]? = some v -> Value.okWide Tryz.prog W .any base t v := hval0
 have hW' := hW
 obtain ⟨p, q, hA0, hV, rfl, _, _⟩ := hW
 have hA : DataW.TrodAll enc Tryz.prog W 0 (fun _ => true) true Tryz.f7.params.toList args.toList ds p := hA0
 rw [Tryz.params7] at hA hval hsz
 obtain ⟨v0, v1, v2, v3, v4, v5, d0, d1, d2, d3, d4, d5, p0, p1, p2, p3, p4, p5, rfl, rfl, rfl, h0, h1, h2, h3, h4, h5⟩ := Dp.trodAll_six hA
 obtain ⟨rfl, rfl⟩ := trodVars_none hV
 obtain ⟨x1, rfl, rfl, rfl, hs1⟩ := open_string Tryz.underlying9 (hval 1 9 v1 rfl rfl) h1
 obtain ⟨x3, rfl, rfl, rfl, hs3⟩ := open_string Tryz.underlying9 (hval 3 9 v3 rfl rfl) h3
 obtain ⟨x4, rfl, rfl, rfl, hs4⟩ := open_string Tryz.underlying9 (hval 4 9 v4 rfl rfl) h4
 obtain ⟨x5, rfl, rfl, rfl, wx5⟩ := open_int Tryz.underlying3 (hval 5 3 v5 rfl rfl) h5
 have hkeep0 := h0
 have hkeep2 := h2
 clear hA0 hval0
 simp only [List.append_nil] at hW'
 have hlim1 : x1.size <= 140737488355328 := by
  have h1 := sized_string hsz (j := 1) (t := 9) rfl rfl
  have h2 := reachBytes_lt
  have h3 : x1.data.toList.length = x1.size := by simp
  omega
 have hlim3 : x3.size <= 140737488355328 := by
  have h1 := sized_string hsz (j := 3) (t := 9) rfl rfl
  have h2 := reachBytes_lt
  have h3 : x3.data.toList.length = x3.size := by simp
  omega
 have hlim4 : x4.size <= 140737488355328 := by
  have h1 := sized_string hsz (j := 4) (t := 9) rfl rfl
  have h2 := reachBytes_lt
  have h3 : x4.data.toList.length = x4.size := by simp
  omega
 have hx5 := bounds_i64 wx5
 have hlt0 : ∀ x ∈ p0, x.block < W.heap.size := fun x hx => hW'.lt x (by simp [hx])
 obtain ⟨x0, rfl, harg0, hlim0⟩ := Dp.arg_plot (hval 0 38 v0 rfl rfl) h0 (fun n hn => by simpa using List.all_eq_true.1 hsz n (DataW.weights_mem_each (j := 0) (t := 38) rfl rfl n hn))
 have hlt2 : ∀ x ∈ p2, x.block < W.heap.size := fun x hx => hW'.lt x (by simp [hx])
 obtain ⟨c2, y2, b2, rfl, hc2, hy2⟩ := Dp.arg_change (hval 2 57 v2 rfl rfl) h2 (fun n hn => by simpa using List.all_eq_true.1 hsz n (DataW.weights_mem_each (j := 2) (t := 57) rfl rfl n hn))
 refine (Dp.pairsl_walk x0 x1 c2 y2 b2 x3 x4 x5 W harg0 hlim0.fit hlim1 hc2 hy2 hlim3 hlim4 hx5 (good_of hL hsh)).mono fun e W' ⟨he, hb⟩ => ?_
 subst he
 have key := Dp.trodAll_mk6 (Below.trod Ds.laidOutAll (by kernel_rfl) (of_decide_eq_true (by kernel_rfl)) hkeep0 hb hlt0) (shut_string Tryz.underlying9 hs1) (Below.trod Ds.laidOutAll (by kernel_rfl) (of_decide_eq_true (by kernel_rfl)) hkeep2 hb hlt2) (shut_string Tryz.underlying9 hs3) (shut_string Tryz.underlying9 hs4) (shut_int Tryz.underlying3 wx5)
 simp only [List.nil_append, List.append_nil] at key
 exact ⟨_, rfl, _, _, _, [], p0 ++ p2, [], hW', trodAll_mk1 (shut_bool Tryz.underlying4 _), key, rfl, hb.frame _, fun h => by cases h⟩
theorem said : Rows.DeedPairsSaid :=
 OpenClaim.holds_of_cond 7 Tryz.f7 rfl rfl rfl rfl rfl rfl rfl ⟨rfl, rfl, rfl, rfl, rfl⟩ rfl rfl rfl rfl rfl (by kernel_rfl) Tryz.func7 Mb.closed7
  (of_decide_eq_true (by kernel_rfl)) (by unfold Func.isWrapper; first | (rw [if_pos (by decide +kernel)]; kernel_rfl) | (rw [if_neg (by decide +kernel)]; exact ⟨rfl, rfl⟩))
  (fun os started H enc _ F => by rw [OpenClaim.pre_eq_preRow]; exact lifted os started H enc F)
theorem plain (f : FuncId) (fn : Func) (hf : Tryz.pinned.checked.prog.funcNamed "furlong/furlonglaw09.DeedPairs" = some f) (hfn : Tryz.pinned.checked.prog.funcs[f]? = some fn) :
  true = Tryz.pinned.checked.prog.looks [] /\ ∀ (j : Nat) t, fn.params[j]? = some t -> Tryz.pinned.checked.prog.wantsStandIn t = false := by
 obtain rfl : f = 7 := Option.some.inj ((show Tryz.prog.funcNamed "furlong/furlonglaw09.DeedPairs" = some 7 by kernel_rfl).symm.trans hf) |>.symm
 obtain rfl : fn = Tryz.f7 := (Option.some.inj (Tryz.func7.symm.trans hfn)).symm
 refine ⟨by kernel_rfl, fun j t ht => ?_⟩
 rw [Tryz.params7] at ht
 have hm : t = 38 \/ t = 9 \/ t = 57 \/ t = 9 \/ t = 9 \/ t = 3 := by simpa using Array.mem_of_getElem? ht
 rcases hm with rfl | rfl | rfl | rfl | rfl | rfl
 ·exact (show Tryz.prog.wantsStandIn 38 = false by kernel_rfl)
 ·exact (show Tryz.prog.wantsStandIn 9 = false by kernel_rfl)
 ·exact (show Tryz.prog.wantsStandIn 57 = false by kernel_rfl)
 ·exact (show Tryz.prog.wantsStandIn 9 = false by kernel_rfl)
 ·exact (show Tryz.prog.wantsStandIn 9 = false by kernel_rfl)
 ·exact (show Tryz.prog.wantsStandIn 3 = false by kernel_rfl)
end ofDeedPairs
set_option maxHeartbeats 0 in
theorem deedPairs_holds : Rows.DeedPairsCardSaid :=
 Claim7.holds_tied_plain_at .later [] _ _ _ _ ofDeedPairs.said (fun _ h => by cases h) (by as_aux_lemma => kernel_rfl) (fun _ h => by cases h) deedPairs_row_tie rfl ⟨rfl, rfl⟩ (by as_aux_lemma => kernel_rfl) rfl ofDeedPairs.plain (by as_aux_lemma => kernel_rfl)
end Go.Proofs.YthcmnkmfhgoddaaGreatDoor
