/- LettersJoins: the law's own walk. -/
import Derived.Test.YtoikilbndhjfcaaDoorSame
import Derived.Test.YtoikilbndhjfcaaDoorWhole
import Derived.Laws.AppendOwnNone
namespace Go.Proofs.YtoikilbndhjfcaaDoor
open Go.RowKit Nums
set_option maxRecDepth 100000

/-- 'append(p, q...)' where the call has made both: under a guard that says yes. -/
theorem append_rows {w : World} {ops : Array Oper} {rest : List Oper} {o : Oper} {a : Act} {Q : Exit → Act → World → Prop} (hgd : Region.wanted o (yielded ops a.tmps) = true) (s x : Operand)
    (ho : o.op = .call { callee := .builtin .append, args := #[s, x], argTypes := #[22, 22] }) (B B2 : Nat) (v v2 : Value) (xs ys : List Int)
    (hs : a.eval s = v) (hown : Made B w v xs) (hx : a.eval x = v2) (hsrc : Made B2 w v2 ys) (hl : xs.length + ys.length ≤ 1048576) (hB : B ≤ w.heap.size)
    (h : ∀ v' w', Made B w' v' (xs ++ ys) → Below B w w' → wpList Tryd.prog ops Q rest (a.put o.dst v') w') : wpList Tryd.prog ops Q (o :: rest) a w := by
  obtain ⟨i0, hi, hz0, hz1, hz2⟩ := info_parts infoRune
  refine wpList_step fun K hK => ?_
  rw [if_pos hgd]
  have hrow := hsrc.row
  obtain ⟨hl2, hn | ⟨g, cap, cur, rfl, hb, hg, h1, h2, h3, h4⟩⟩ := hsrc
  · obtain ⟨rfl, h0⟩ := hn
    have e : ys = [] := List.length_eq_zero_iff.1 h0
    subst e
    have hrun := run_append_owned_none (P := Tryd.prog) (w := w) B 22 o.type 21 i0 1 Tryd.underlying22 hi v xs.length (xs.map (Value.int .i32)) hown
    unfold Oper.wp
    simp [execOp, ho, resolve, invoke, builtin, hs, hx, hrun, Result.andThen]
    exact hK _ _ (h _ _ (by simpa using hown) (Below.refl _ _))
  · refine wp_append_own w s x 22 ho B 21 i0 (.int .i32 0) 1 4 Tryd.underlying22 hi hz0 hz1 hz2 rfl (by decide) v xs.length _ hs hown ⟨g, 0, none⟩ ys.length cap (ys.map (Value.int .i32)) hx (by simp) ?_ ?_ ?_ ?_ hB ?_
    · intro j u hj
      obtain ⟨ao, cap', e, hc⟩ := hrow
      simp only [Value.slice.injEq] at e
      have hjl : j < ys.length := by
        have := (List.getElem?_eq_some_iff.1 hj).1
        simpa using this
      obtain ⟨b, off, e2, hc2⟩ := hc (by omega)
      rw [e2] at e
      have e3 := Option.some.inj e.1
      have hg1 : g = b := congrArg Addr.block e3
      have hg2 : 0 = off := congrArg Addr.off e3
      subst hg1 hg2
      have := hc2 j hjl
      have hadd : (⟨g, 0, none⟩ : Addr).add j = ⟨g, 0 + j, none⟩ := by unfold Addr.add; split <;> simp_all
      rw [hadd, this]
      rw [List.getElem?_map, List.getElem?_eq_getElem hjl] at hj
      simp at hj
      rw [← hj]
      simp [List.getD_eq_getElem?_getD, List.getElem?_eq_getElem hjl]
    · intro u hu
      obtain ⟨z, _, rfl⟩ := List.mem_map.1 hu
      rfl
    · unfold maxLen; omega
    · omega
    · intro v' w' h5 h6 _
      refine hK _ _ (h v' w' ?_ ((Below.refl B w).grown h6 hB (fun k hk => (World.ownsRow.lt hown k hk).1)))
      unfold Made
      simpa using h5

theorem add_data (a b : ByteArray) : (a ++ b).data.toList = a.data.toList ++ b.data.toList := by simp
theorem rs_both {a b : List UInt8} {xs : List Int} (h : rs a = some xs) : rs (a ++ b) = (rs b).map (fun ys => xs ++ ys) := by
  obtain ⟨h1, h2⟩ := rs_write h
  rw [← h2]; exact rs_texts xs h1 b
theorem made_none (B : Nat) (w : World) (hB : B ≤ w.heap.size) : Made B (w.alloc (Obj.cells #[] 21)) (.slice (some ⟨w.heap.size, 0, none⟩) 0 0) [] :=
  World.ownsRow_made w #[] 0 hB (by decide) (by simp)

set_option maxHeartbeats 2000000 in
theorem joins_walk (a b : ByteArray) (w : World) (ht : Tabs w) (ha : a.size ≤ 9223372036854775807) (hb : b.size ≤ 9223372036854775807) :
    Calls Tryd.prog 8 #[.string a, .string b] w fun e w' => e = .returned (.bool true) ∧ Below w.heap.size w w' := by
  by_cases h1 : 65536 < a.size
  · go_enter Tryd.func8, Tryd.ntmps8
    go_wp2_with (go_at_call 11; refine (alive_any _ ht).mono ?_; rintro e w1 ⟨rfl, hb1⟩)
    go_ret
    exact ⟨rfl, hb1⟩
  by_cases h2 : 65536 < b.size
  · go_enter Tryd.func8, Tryd.ntmps8
    go_wp2_with (go_at_call 11; refine (alive_any _ ht).mono ?_; rintro e w1 ⟨rfl, hb1⟩)
    go_ret
    exact ⟨rfl, hb1⟩
  have hc : (a ++ b).size ≤ 131072 := by rw [← size_length, add_data, List.length_append, size_length, size_length]; omega
  have RA : Hid (Room a.data.toList) := room_of_length (by rw [size_length]; omega)
  have RB : Hid (Room b.data.toList) := room_of_length (by rw [size_length]; omega)
  have RC : Hid (Room (a ++ b).data.toList) := room_of_length (by rw [size_length]; omega)
  have HC : Hid ((a ++ b).data.toList = a.data.toList ++ b.data.toList) := add_data a b
  have hsum : a.size + b.size ≤ 9223372036854775807 := by omega
  go_enter Tryd.func8, Tryd.ntmps8
  go_wp2_with fail
  refine (Runes_any a _ ht ha RA.out).mono ?_
  rintro e w1 ⟨v1, hb1, hr1⟩
  rcases hr1 with ⟨hr1, rfl, rfl⟩ | ⟨xs, hr1, rfl, hmade1⟩
  · clear hr1
    go_wp2_with fail
    refine (Runes_any b _ (ht.below hb1) hb RB.out).mono ?_
    rintro e w2 ⟨v2, hb2, hr2⟩
    have hbb : Below w.heap.size w w2 := hb1.trans (hb2.mono hb1.size)
    clear hb1 hb2
    rcases hr2 with ⟨hr2, rfl, rfl⟩ | ⟨ys, hr2, rfl, hmade2⟩
    all_goals
      clear hr2
      go_wp2_with fail
      refine (Runes_any (a ++ b) _ (ht.below hbb) (by omega) RC.out).mono ?_
      rintro e w3 ⟨v3, hb3, hr3⟩
      have hbc : Below w.heap.size w w3 := hbb.trans (hb3.mono hbb.size)
      rcases hr3 with ⟨hr3, rfl, rfl⟩ | ⟨zs, hr3, rfl, hmade3⟩
      all_goals
        clear hr3
        go_wp2_with (go_at_call 11; refine (alive_any _ (ht.below hbc)).mono ?_; rintro e w4 ⟨rfl, hb4⟩)
        go_ret
        exact ⟨rfl, hbc.trans (hb4.mono hbc.size)⟩
  have hl1 := (rs_len hr1).2
  rw [size_length] at hl1
  go_wp2_with fail
  refine (Runes_any b _ (ht.below hb1) hb RB.out).mono ?_
  rintro e w2 ⟨v2, hb2, hr2⟩
  have hbb : Below w.heap.size w w2 := hb1.trans (hb2.mono hb1.size)
  have hmade1 := hmade1.below hb2
  clear hb2
  rcases hr2 with ⟨hr2, rfl, rfl⟩ | ⟨ys, hr2, rfl, hmade2⟩
  · have HN : Hid (rs (a ++ b).data.toList = none) := by show rs _ = none; rw [HC.out, rs_both hr1, hr2]; rfl
    clear hr1 hr2 hb1
    go_wp2_with fail
    refine (Runes_any (a ++ b) _ (ht.below hbb) (by omega) RC.out).mono ?_
    rintro e w3 ⟨v3, hb3, hr3⟩
    have hbc : Below w.heap.size w w3 := hbb.trans (hb3.mono hbb.size)
    clear hb3 hbb
    rcases hr3 with ⟨hr3, rfl, rfl⟩ | ⟨zs, hr3, rfl, hmade3⟩
    · clear hr3
      go_wp2_with (go_at_call 11; refine (alive_any _ (ht.below hbc)).mono ?_; rintro e w4 ⟨rfl, hb4⟩)
      go_ret
      exact ⟨rfl, hbc.trans (hb4.mono hbc.size)⟩
    · exact absurd (HN.out.symm.trans hr3) (by simp)
  have hl2 := (rs_len hr2).2
  rw [size_length] at hl2
  have HN : Hid (rs (a ++ b).data.toList = some (xs ++ ys)) := by show rs _ = _; rw [HC.out, rs_both hr1, hr2]; rfl
  clear hr1 hr2
  go_wp2_with fail
  refine (Runes_any (a ++ b) _ (ht.below hbb) (by omega) RC.out).mono ?_
  rintro e w3 ⟨v3, hb3, hr3⟩
  have hbc : Below w.heap.size w w3 := hbb.trans (hb3.mono hbb.size)
  rcases hr3 with ⟨hr3, rfl, rfl⟩ | ⟨zs, hr3, rfl, hmade3⟩
  · exact absurd (HN.out.symm.trans hr3) (by simp)
  obtain rfl : xs ++ ys = zs := Option.some.inj (HN.out.symm.trans hr3)
  have hm1 := hmade1.below hb3
  have hm2 := hmade2.below hb3
  clear hr3 hb3 hbb hmade1 hmade2 hb1
  go_wp2_with fail
  refine (alive_any _ (ht.below hbc)).mono ?_
  rintro e w4 ⟨rfl, hb4⟩
  have hbd : Below w.heap.size w w4 := hbc.trans (hb4.mono hbc.size)
  have hn1 := hm1.below hb4
  have hn2 := hm2.below hb4
  have hn3 := hmade3.below hb4
  clear hb4 hbc hm1 hm2 hmade3
  have hal : Below w4.heap.size w4 (w4.alloc (Obj.cells #[] 21)) := (Below.refl _ _).alloc (Nat.le_refl _) _
  have hq := made_none w4.heap.size w4 (Nat.le_refl _)
  have HO : Hid (Made w.heap.size w4 v1 xs ∧ Made w1.heap.size w4 v2 ys ∧ Made w2.heap.size w4 v3 (xs ++ ys) ∧ Made w4.heap.size (w4.alloc (Obj.cells #[] 21)) (.slice (some ⟨w4.heap.size, 0, none⟩) 0 0) []) := ⟨hn1, hn2, hn3, hq⟩
  have HAL : Hid (Below w4.heap.size w4 (w4.alloc (Obj.cells #[] 21))) := hal
  clear hn1 hn2 hn3 hq hal
  go_wp2_with (at_builtin; refine append_rows (by rfl) _ _ rfl w4.heap.size w.heap.size _ _ [] xs rfl HO.out.2.2.2 rfl (HO.out.1.below HAL.out) (by simp; omega) (by simp) ?_)
  intro v5 w5 hm5 hb5
  have hb45 : Below w4.heap.size w4 w5 := HAL.out.trans hb5
  have HM5 : Hid (Made w4.heap.size w5 v5 xs ∧ Below w4.heap.size w4 w5) := ⟨hm5, hb45⟩
  clear hm5 hb5 hb45 HAL
  go_wp2_with (at_builtin; refine append_rows (by rfl) _ _ rfl w4.heap.size w1.heap.size _ _ xs ys rfl HM5.out.1 rfl (HO.out.2.1.below HM5.out.2) (by omega) HM5.out.2.size ?_)
  intro v6 w6 hm6 hb6
  have hb46 : Below w4.heap.size w4 w6 := HM5.out.2.trans hb6
  have hrow3 := (HO.out.2.2.1.below hb46).row
  have hrow6 := hm6.row
  have hbe : Below w.heap.size w w6 := hbd.trans (hb46.mono hbd.size)
  clear hm6 hb6 hb46 HM5 HO hbd
  go_wp2_with fail
  refine (Same_any _ _ (xs ++ ys) (xs ++ ys) _ hrow3 hrow6 (by simp; omega) (by simp; omega)).mono ?_
  rintro e w7 ⟨rfl, n7, rfl⟩
  rw [decide_eq_true (rfl : xs ++ ys = xs ++ ys)]
  go_wp2
  go_ret
  exact ⟨rfl, below_drewN hbe _⟩
end Go.Proofs.YtoikilbndhjfcaaDoor
