/- DiskAgain. -/
import Derived.Test.YtpmmpdkeahmdiaaCrashWalk
import Derived.Laws.OwnMore
namespace Go.Proofs.Ytpmmpdkeahmdiaa
open Go.RowKit
set_option maxRecDepth 100000

attribute [local go_sem ↓] exec_alloc_D exec_box_D exec_load_D exec_store_D
attribute [local go_sem] rdV_cells rdC_0 rdC_1 rdC_2 rdC_3 rdC_4 rdC_5
theorem info_int : (Try.prog.info? 3).map (fun i => (i.zero, i.size, i.bytes)) = some (some (.int .i64 0), 1, 8) := by kernel_rfl
theorem run_append_none_c {P : Program} {w : World} (base : Nat) (t ty e : TypeId) (i : TypeInfo) (size c : Nat) (ht : P.underlying t = some (.slice e)) (hi : P.info? e = some i)
    (v : Value) (n : Nat) (xs : List Value) (hown : w.ownsRow base e size v n xs) :
    (Builtin.append_ #[t, t] ty #[v, .slice none 0 c]).run P w = .ok v w := by
  rcases hown.2 with ⟨rfl, rfl⟩ | ⟨g, cap, cur, rfl, _, _, hnc, _⟩
  · simp [Builtin.append_, run_underlying ht, sizeOf, typeInfo, hi, Builtin.lenOf, Builtin.firstCells]
  · simp [Builtin.append_, run_underlying ht, sizeOf, typeInfo, hi, Builtin.lenOf, Builtin.firstCells, hnc, storeCells]
def IntOwn (B : Nat) (w : World) (v : Value) (us : List Int) : Prop := w.ownsRow B 3 1 v us.length (us.map (Value.int .i64))
/-- 'append(p, q...)' where the call has made p: whole numbers. -/
theorem append_ints {w : World} {ops : Array Oper} {rest : List Oper} {o : Oper} {a : Act} {Q : Exit → Act → World → Prop} (hgd : o.guard = none) (s x : Operand)
    (ho : o.op = .call { callee := .builtin .append, args := #[s, x], argTypes := #[23, 23] }) (B : Nat) (v v2 : Value) (us vs : List Int)
    (hs : a.eval s = v) (hown : IntOwn B w v us) (hx : a.eval x = v2) (hsrc : IntsAt w v2 vs) (hl : us.length + vs.length ≤ 4398046511104) (hB : B ≤ w.heap.size)
    (h : ∀ v' w', IntOwn B w' v' (us ++ vs) → Below B w w' → wpList Try.prog ops Q rest (a.put o.dst v') w') : wpList Try.prog ops Q (o :: rest) a w := by
  obtain ⟨i0, hi, hz0, hz1, hz2⟩ := info_parts info_int
  obtain ⟨ad, cap, rfl, h1, _, hcs, _⟩ := hsrc
  cases ad with
  | none =>
    have hvs : vs = [] := by
      cases vs with
      | nil => rfl
      | cons y r => obtain ⟨_, _, e, _⟩ := hcs (by simp); cases e
    subst hvs
    refine wpList_step fun K hK => ?_
    rw [if_pos (by simp [Region.wanted, hgd])]
    have hrun := run_append_none_c (P := Try.prog) (w := w) B 23 o.type 3 i0 1 cap Try.underlying23 hi v us.length _ hown
    unfold Oper.wp
    simp [execOp, ho, resolve, invoke, builtin, hs, hx, hrun, Result.andThen]
    exact hK _ _ (h _ _ (by simpa using hown) (Below.refl _ _))
  | some ad =>
    refine wpList_append_own w hgd s x 23 ho B 3 i0 _ 1 8 Try.underlying23 hi hz0 hz1 hz2 rfl (by decide) v us.length _ hs hown ad vs.length cap (vs.map (Value.int .i64)) hx (by simp) ?_ ?_ (by unfold maxLen; omega) (by omega) hB ?_
    · intro j u hj
      rw [List.getElem?_map] at hj
      obtain ⟨z, hz, rfl⟩ := Option.map_eq_some_iff.1 hj
      have hjl := (List.getElem?_eq_some_iff.1 hz).1
      obtain ⟨b, off, e, _, hc⟩ := hcs (by omega)
      cases e
      have hadd : (⟨b, off, none⟩ : Addr).add j = ⟨b, off + j, none⟩ := by unfold Addr.add; split <;> simp_all
      rw [hadd]
      exact hc j z hz
    · intro u hu
      obtain ⟨z, _, rfl⟩ := List.mem_map.1 hu
      rfl
    · intro v' w' h5 h6 _
      refine h v' w' ?_ ((Below.refl B w).grown h6 hB (fun k hk => (World.ownsRow.lt hown k hk).1))
      unfold IntOwn
      rw [List.length_append, List.map_append]
      exact h5
theorem IntOwn.ints {B : Nat} {w : World} {v : Value} {us : List Int} (h : IntOwn B w v us) (hb : ∀ x ∈ us, -9223372036854775808 ≤ x ∧ x ≤ 9223372036854775807) (hl : us.length ≤ 9223372036854775807) : IntsAt w v us := by
  obtain ⟨_, ⟨e, h0⟩ | ⟨g, cap, cur, rfl, _, hg, h2, h3, h4, h5⟩⟩ := h
  · have : us = [] := List.eq_nil_of_length_eq_zero h0
    subst this
    exact ⟨none, 0, by rw [e]; rfl, Nat.le_refl _, by simp, fun h => by simp at h, fun x hx => by cases hx⟩
  · refine ⟨some ⟨g, 0, none⟩, cap, rfl, h2, hl, fun _ => ⟨g, 0, rfl, (Array.getElem?_eq_some_iff.1 hg).1, fun j x hj => ?_⟩, hb⟩
    have hjl := (List.getElem?_eq_some_iff.1 hj).1
    have e : (us.map (Value.int .i64))[j]? = some (.int .i64 x) := by rw [List.getElem?_map, hj]; rfl
    rw [← h5, List.getElem?_take, if_pos (by omega)] at e
    rw [Nat.zero_add]
    simpa [World.cell?, hg] using e
set_option maxHeartbeats 1000000 in
theorem again_walk (room : Int) (v0 v2 : Value) (w : World) (h1 : -9223372036854775808 ≤ room) (h2 : room ≤ 9223372036854775807) (L : List OpC) (hS : Script w v0 L) (ps : List Int) (hP : IntsAt w v2 ps) (hL : L.length ≤ 1048576) (hps : ps.length ≤ 1048576) :
    Calls Try.prog 4 #[.int .i64 room, v0, v2] w fun e w' => e = .returned (.bool true) ∧ Below w.heap.size w w' := by
  have HP : Hid (IntsAt w v2 ps) := hP
  have HSC : Hid (Script w v0 L) := hS
  clear hP hS
  obtain ⟨adp, cpp, rfl, _⟩ := id HP.out
  go_enter Try.func4, Try.ntmps4
  go_wp2_with fail
  refine (begun_any room v0 w L HSC.out h1 h2 hL).mono ?_
  rintro e w1 ⟨p, fp, rv, rfl, hd1, hr1, hb1, hf1⟩
  obtain ⟨ad, n, c, rfl⟩ := hr1.form
  obtain ⟨d, hd⟩ : ∃ d, behind room L = d := ⟨_, rfl⟩
  have HSO : Hid (SecsOk d.secs) := hd ▸ behind_ok room L
  rw [hd] at hd1 hr1
  rw [hd]
  have hst := storeD_at (r := rdOf d) (ad := ad) (n := n) (c := c) (DskAt.new w1 rd0 (.slice none 0 0))
  obtain ⟨w2, hw2⟩ : ∃ w2, setD (w1.alloc (.cells (rdC rd0 (.slice none 0 0)) 27)) w1.heap.size (rdOf d) (.slice ad n c) = w2 := ⟨_, rfl⟩
  rw [hw2] at hst
  have hst2 : ∀ b, b < w1.heap.size → w2.heap[b]? = w1.heap[b]? := fun b hb => by rw [← hw2, setD_far _ _ _ _ _ (by omega), alloc_old _ _ hb]
  have hz2 : w1.heap.size ≤ w2.heap.size := by rw [← hw2, setD_size]; simp
  have D2 : Hid (DiskAt L.length w2 p d fp) := hd1.same fun b hb => hst2 b (hd1.lt b hb)
  have R2 : Hid (RefIs (fun b => b ∉ fp) w2 (rdV (rdOf d) (.slice ad n c)) d) := hr1.same hz2 fun b _ hb => hst2 b hb
  have S2 : Hid (DskAt w2 w1.heap.size (rdOf d) (.slice ad n c)) := hw2 ▸ (DskAt.new w1 rd0 (.slice none 0 0)).set
  have B2 : Hid (Below w.heap.size w w2) := by
    rw [← hw2]
    exact setD_below (hb1.alloc hb1.size _) hb1.size _ _
  have HOK : Hid (DsOk L.length d) := D2.out.ok
  clear hd1 hr1 hb1 hf1 hd hw2 hst2 hz2
  go_wp2_with fail
  refine (Crash_any L.length p d fp _ ps w2 D2.out (HP.out.below B2.out) (by omega)).mono ?_
  rintro e w3 ⟨q, fq, rfl, hc3, hb3, hf3⟩
  have C3 : Hid (DiskAt L.length w3 q (crashD d ps) fq) := hc3
  have R3 : Hid (RefIs (fun b => b ∉ fp) w3 (rdV (rdOf d) (.slice ad n c)) d) := R2.out.below hb3
  have S3 : Hid (DskAt w3 w1.heap.size (rdOf d) (.slice ad n c)) := S2.out.below S2.out.lt hb3
  have B3 : Hid (Below w.heap.size w w3) := B2.out.trans (hb3.mono B2.out.size)
  have HSC3 : Hid (SecsOk (crashD d ps).secs) := crash_ok HSO.out
  have HL1 : Hid (∀ t, IntOwn w3.heap.size (w3.alloc (Obj.cells #[.int .i64 1] t)) (.slice (some ⟨w3.heap.size, 0, none⟩) 1 1) [1] ∨ t ≠ 3) := fun t => by
    by_cases e : t = 3
    · subst e; exact .inl (World.ownsRow_lit w3 #[.int .i64 1] 1 (Nat.le_refl _) (by decide) rfl)
    · exact .inr e
  clear hc3 hb3 hf3 hst D2 R2 S2 B2
  go_wp2_with (at_builtin; refine append_ints rfl _ _ rfl w3.heap.size _ _ [1] ps rfl ((HL1.out 3).resolve_right (fun h => h rfl)) rfl (HP.out.below (B3.out.alloc B3.out.size _)) (by simp; omega) (by simp) ?_)
  intro v4 w4 ho4 hb4
  have B34 : Hid (Below w3.heap.size w3 w4) := ((Below.refl _ w3).alloc (Nat.le_refl _) _).trans hb4
  obtain ⟨_, _, _, _, _, _, hpb⟩ := HP.out
  have HI4 : Hid (IntsAt w4 v4 ([1] ++ ps)) := ho4.ints (fun x hx => by
    rcases List.mem_cons.1 (by simpa using hx) with hx | hx
    · rw [hx]; omega
    · exact hpb x hx) (by simp; omega)
  have C4 : Hid (DiskAt L.length w4 q (crashD d ps) fq) := C3.out.below B34.out
  have R4 : Hid (RefIs (fun b => b ∉ fp) w4 (rdV (rdOf d) (.slice ad n c)) d) := R3.out.below B34.out
  have S4 : Hid (DskAt w4 w1.heap.size (rdOf d) (.slice ad n c)) := S3.out.below S3.out.lt B34.out
  have B4 : Hid (Below w.heap.size w w4) := B3.out.trans (B34.out.mono B3.out.size)
  clear ho4 hb4 hpb C3 R3 S3 B3 HL1
  go_wp2_with fail
  refine (Crash_any L.length q (crashD d ps) fq v4 ([1] ++ ps) w4 C4.out HI4.out (by omega)).mono ?_
  rintro e w5 ⟨q2, fq2, rfl, hc5, hb5, hf5⟩
  rw [crash_twice] at hc5
  have C5 : Hid (DiskAt L.length w5 q2 (crashD d ps) fq2) := hc5
  have R5 : Hid (RefIs (fun b => b ∉ fp) w5 (rdV (rdOf d) (.slice ad n c)) d) := R4.out.below hb5
  have S5 : DskAt w5 w1.heap.size (rdOf d) (.slice ad n c) := S4.out.below S4.out.lt hb5
  have B5 : Hid (Below w.heap.size w w5) := B4.out.trans (hb5.mono B4.out.size)
  have hld := loadD_at S5
  clear hc5 hb5 hf5 C4 R4 S4 B4 HI4 B34 S5
  go_wp2_with fail
  refine (refCrash_any _ L.length _ _ d ps w5 R5.out HOK.out (HP.out.below B5.out)).mono ?_
  rintro e w6 ⟨rv6, rfl, hr6, hb6⟩
  obtain ⟨ad6, n6, c6, rfl⟩ := hr6.form
  have R6 : Hid (RefIs _ w6 (rdV (rdOf (crashD d ps)) (.slice ad6 n6 c6)) (crashD d ps)) := hr6
  have C6 : Hid (DiskAt L.length w6 q2 (crashD d ps) fq2) := C5.out.below hb6
  have B6 : Hid (Below w.heap.size w w6) := B5.out.trans (hb6.mono B5.out.size)
  clear hr6 hb6 hld
  go_wp2_with fail
  refine (stands_any _ L.length q2 (crashD d ps) fq2 _ w6 C6.out R6.out HSC3.out (by omega)).mono ?_
  rintro e w7 ⟨rfl, hb7⟩
  have B7 : Hid (Below w.heap.size w w7) := B6.out.trans (hb7.mono B6.out.size)
  clear hb7
  go_wp2_with fail
  go_ret
  exact ⟨rfl, B7.out⟩
end Go.Proofs.Ytpmmpdkeahmdiaa
