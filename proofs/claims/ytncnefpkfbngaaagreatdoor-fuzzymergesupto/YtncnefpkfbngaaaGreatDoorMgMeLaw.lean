/- PROVED: changes are laid over any matches as the document says (P12.2)
 Conditions: the second form: what comes in is of bulk at most 1048576. -/
import Derived.Test.YtncnefpkfbngaaaGreatDoorMi
import Derived.Test.YtncnefpkfbngaaaGreatDoorJ20
import Derived.Test.YtncnefpkfbngaaaGreatDoorPairsB
import Derived.Test.YtncnefpkfbngaaaGreatDoorMtsIn
import Derived.Deep.Slices
namespace Go.Proofs.YtncnefpkfbngaaaGreatDoor
open Go.ChangeShapes Go.WideShapes Go.ChangeAt Go.RowKit
open Go.ChangeMaps (open_string shut_string)
set_option maxRecDepth 100000

theorem fmerges_bulk {H : Type} (l : List (DataW H)) : l.length ≤ Rows.uptoBulkAll l := by
 induction l with
 | nil => exact Nat.le_refl _
 | cons d r ih =>
  have h1 : 1 ≤ Rows.uptoBulk d := by
   cases d with
   | lit l => cases l <;> simp [Rows.uptoBulk]
   | _ => simp [Rows.uptoBulk]
  simp only [Rows.uptoBulkAll, List.length_cons]
  omega
theorem fmerges_big {H : Type} (d : DataW H) : big d ≤ Rows.uptoBulk d := by
 cases d with
 | slice el sp => have h1 := fmerges_bulk el; have h2 := fmerges_bulk sp; simp only [big, Rows.uptoBulk]; omega
 | _ => simp [big]
theorem fmerges_contract (H : Type) (enc : TypeId × Value → H) (W : World) (base : Nat) (args : Array Value) (ds gs : List (DataW H)) (before : List MemPlace)
 (hval : ∀ (j : Nat) t v, Tryz.f3.params[j]? = some t → args[j]? = some v → Value.okWide Tryz.prog W .any base t v)
 (hW : DataW.Whole enc Tryz.prog Tryz.f3.params.toList Rows.fuzzyMergesSpec.vars false W args.toList ds gs before) (hL : laidMetH Tryz.prog Rows.fuzzyMergesUptoRow.laid W) (hk : Rows.uptoSmall H (ds ++ gs) = true) :
 Calls Tryz.prog 3 args W fun e W' => ∃ v, e = .returned v ∧ Rows.fuzzyMergesSpec.post enc Tryz.prog Tryz.f3 false true false false W args v W' := by
 have hW' := hW
 obtain ⟨p, q, hA0, hV, rfl, hfz, hnd⟩ := hW
 have hA : DataW.TrodAll enc Tryz.prog W 0 (fun _ => true) true Tryz.f3.params.toList args.toList ds p := hA0
 rw [Tryz.params3] at hA hval
 obtain ⟨v0, vs0, d0, ds0, p0, q0, hargs, rfl, rfl, h0, r0⟩ := trodAll_cons hA
 obtain ⟨v1, vs1, d1, ds1, p1, q1, rfl, rfl, rfl, h1, r1⟩ := trodAll_cons r0
 obtain ⟨v2, vs2, d2, ds2, p2, q2, rfl, rfl, rfl, h2, r2⟩ := trodAll_cons r1
 obtain ⟨rfl, rfl, rfl⟩ := trodAll_nil r2
 obtain rfl : args = #[v0, v1, v2] := by cases args; simp_all
 obtain ⟨rfl, rfl⟩ := trodVars_none hV
 obtain ⟨L0, hR0, hS0, hbig0⟩ := mts_in (hval 0 22 v0 rfl rfl) h0
 obtain ⟨L1, hR1, hS1, hl1, hbig1, hw1⟩ := pairs_inB (hval 1 23 v1 rfl rfl) h1
 obtain ⟨x2, rfl, hx2⟩ := query_in (hval 2 25 v2 rfl rfl) h2
 clear hA0
 simp only [List.append_nil] at hW' hk
 have hbk : Rows.uptoBulkAll _ ≤ 1048576 := of_decide_eq_true hk
 simp only [Rows.uptoBulkAll] at hbk
 have hbg0 := fmerges_big d0
 have hbg1 := fmerges_big d1
 refine (fmerges_walk v0 v1 x2 W (tabs_of_laid hL) L0 hR0 hS0 (by omega) L1 hR1 hS1 (by omega) (fun x hx => Nat.le_trans (hw1 x hx) (by omega)) hx2).mono fun e W' ⟨he, hb⟩ => ?_
 subst he
 have harg2 := Below.trod laidOut (by kernel_rfl) (of_decide_eq_true (by kernel_rfl)) h2 hb (fun x hx => hW'.lt x (by simp [hx]))
 have harg1 := Below.trod laidOut (by kernel_rfl) (of_decide_eq_true (by kernel_rfl)) h1 hb (fun x hx => hW'.lt x (by simp [hx]))
 have harg0 := Below.trod laidOut (by kernel_rfl) (of_decide_eq_true (by kernel_rfl)) h0 hb (fun x hx => hW'.lt x (by simp [hx]))
 exact ⟨_, rfl, _, _, _, [], _, [], hW', trodAll_cons_mk (shut_bool Tryz.underlying4 _) trodAll_mk0,
  trodAll_cons_mk harg0 (trodAll_cons_mk harg1 (trodAll_cons_mk harg2 trodAll_mk0)), rfl, hb.frame _, fun h => by cases h⟩

theorem fmerges_laid (os : Os) : laidMet Tryz.prog Rows.fuzzyMergesUptoRow.laid ((laidWorld os).forCall (fun _ _ => 0) ⟨#[], #[.slice none 0 0, .slice none 0 0, .agg #[.string .empty, .int .i64 0, .int .i64 0]], []⟩).memory :=
 laidMet_of_run' 8 (by kernel_rfl) (by kernel_rfl)
theorem fmerges_reads (os : Os) {H : Type} (enc : TypeId × Value → H) : ∃ places, DataW.whole enc Tryz.prog ((laidWorld os).forCall (fun _ _ => 0) ⟨#[], #[.slice none 0 0, .slice none 0 0, .agg #[.string .empty, .int .i64 0, .int .i64 0]], []⟩).memory Tryz.f3.params.toList Rows.fuzzyMergesSpec.vars false #[Value.slice none 0 0, Value.slice none 0 0, Value.agg #[.string .empty, .int .i64 0, .int .i64 0]].toList 8 = some ([.nil, .nil, .agg [.lit (.string []), .lit (.int .i64 0), .lit (.int .i64 0)]], [], places) :=
 ⟨[], by kernel_rfl⟩

theorem fmerges_lifted (os : Os) (started : os.Started) (H : Type) (enc : TypeId × Value → H) (F : Stop.Interp) :
 ReturnsInHanded {} Tryz.checked os 3 .any ((Rows.OpenSpec.upto Rows.fuzzyMergesSpec).preRow enc Tryz.prog Tryz.f3 Rows.fuzzyMergesUptoRow.domain false Rows.fuzzyMergesUptoRow.laid) (((Rows.OpenSpec.upto Rows.fuzzyMergesSpec).at F).post enc Tryz.prog Tryz.f3 false true false false) := by
 obtain ⟨places, hx⟩ := fmerges_reads os enc
 refine returnsInHanded_of_row (C := Tryz.checked) (s := Rows.OpenSpec.upto Rows.fuzzyMergesSpec) own started (by kernel_rfl) Tryz.func3
  (witness_row_at (enc := enc) (C := Tryz.checked) false (laidWorld os) #[.slice none 0 0, .slice none 0 0, .agg #[.string .empty, .int .i64 0, .int .i64 0]] rfl (by kernel_rfl) (by kernel_rfl) (by kernel_rfl)
   (OpenSpec.preRow_of_cond 8 hx (by kernel_rfl) (fun k hk => by cases hk; kernel_rfl) (by kernel_rfl) (fmerges_laid os))) ?_
 intro W base args ds gs before hval hW _ hcond _ hL _ _
 exact fmerges_contract H enc W base args ds gs before hval hW hL (hcond _ rfl)

theorem fmerges_said : Rows.FuzzyMergesUptoSaid :=
 OpenClaim.holds_of_cond 3 Tryz.f3 rfl rfl rfl rfl rfl rfl rfl ⟨rfl, rfl, rfl, rfl, rfl⟩ rfl rfl rfl rfl rfl (by kernel_rfl) Tryz.func3 (by kernel_rfl)
  (of_decide_eq_true (by kernel_rfl)) (by unfold Func.isWrapper; first | (rw [if_pos (by decide +kernel)]; kernel_rfl) | (rw [if_neg (by decide +kernel)]; exact ⟨rfl, rfl⟩))
  (fun os started H enc _ F => by rw [OpenClaim.pre_eq_preRow]; exact fmerges_lifted os started H enc F)

theorem fmerges_plain (f : FuncId) (fn : Func) (hf : Tryz.pinned.checked.prog.funcNamed "abecedary/abecedarylaw12.FuzzyMerges" = some f) (hfn : Tryz.pinned.checked.prog.funcs[f]? = some fn) :
 false = Tryz.pinned.checked.prog.looks [] ∧ ∀ (j : Nat) t, fn.params[j]? = some t → Tryz.pinned.checked.prog.wantsStandIn t = false := by
 obtain rfl : f = 3 := Option.some.inj ((show Tryz.prog.funcNamed "abecedary/abecedarylaw12.FuzzyMerges" = some 3 by kernel_rfl).symm.trans hf) |>.symm
 obtain rfl : fn = Tryz.f3 := (Option.some.inj (Tryz.func3.symm.trans hfn)).symm
 refine ⟨by kernel_rfl, fun j t ht => ?_⟩
 rw [Tryz.params3] at ht
 have hm := Array.mem_of_getElem? ht
 simp only [List.mem_toArray, List.mem_cons, List.not_mem_nil, or_false] at hm
 rcases hm with rfl | rfl | rfl
 · exact (show Tryz.prog.wantsStandIn 22 = false by kernel_rfl)
 · exact (show Tryz.prog.wantsStandIn 23 = false by kernel_rfl)
 · exact (show Tryz.prog.wantsStandIn 25 = false by kernel_rfl)

/-- The card. -/
theorem fmerges_card : Rows.FuzzyMergesUptoCardSaid :=
 Claim7.holds_tied_plain_at .later [] _ _ _ _ fmerges_said (fun _ h => by cases h) (by kernel_rfl) (fun _ h => by cases h) fuzzyMergesUpto_row_tie rfl ⟨rfl, rfl⟩ (by kernel_rfl) rfl fmerges_plain (by kernel_rfl)
end Go.Proofs.YtncnefpkfbngaaaGreatDoor
