/- PackReads: the law's own walk. -/
import Derived.Test.YtllmdfkiogmofaaGreatDoorUfW
import Derived.Test.YtllmdfkiogmofaaGreatDoorG9
namespace Go.Proofs.YtllmdfkiogmofaaGreatDoor
open Go.RowKit Nums Fm Pk
set_option maxRecDepth 100000

/-- A machine in its box. -/
structure MX (w W : World) (mb : Nat) (bs : Int) (vs : Value) (m : List RSt) : Prop where
  bel : Below w.heap.size w W
  mac : W.heap[mb]? = some (.cells #[.int .i64 bs, vs] 26)
  sts : StsAt W.heap.size W vs m
theorem MX.facts {w W : World} {mb : Nat} {bs : Int} {vs : Value} {m : List RSt} (h : MX w W mb bs vs m) : W.cell? ⟨mb, 0, none⟩ = some (.int .i64 bs) ∧ W.cell? ⟨mb, 1, none⟩ = some vs := ⟨by simp [World.cell?, h.mac], by simp [World.cell?, h.mac]⟩
theorem MX.below {w W W' : World} {mb : Nat} {bs : Int} {vs : Value} {m : List RSt} (h : MX w W mb bs vs m) (hb : Below W.heap.size W W') : MX w W' mb bs vs m :=
  ⟨h.bel.trans (hb.mono h.bel.size), (hb.block mb (Array.getElem?_eq_some_iff.1 h.mac).1).trans h.mac, (h.sts.below hb).mono hb.size⟩
theorem nil_sts (W : World) : StsAt W.heap.size W (.slice none 0 0) [] := (MRow.nil W.heap.size W).stsR (fun s hs => by cases hs) (by simp)
/-- Both read the same. -/
theorem reads_both (xs : List Nat) (hx : ∀ x ∈ xs, x < 256) : ∃ (bs er : Int) (mm : List RSt),
    (∀ w w' e, UnpackSays w w' xs e → ∃ ad n cap, e = .returned (.tuple #[.agg #[.int .i64 bs, .slice ad n cap], .int .i64 er]) ∧ Below w.heap.size w w' ∧ StsAt w'.heap.size w' (.slice ad n cap) mm) ∧
    (∀ w w' e, RUSays w w' xs e → MB (rdAll xs).2.1 → (rdAll xs).2.1.length ≤ 98305 → ∃ ad n cap, e = .returned (.tuple #[.agg #[.int .i64 bs, .slice ad n cap], .int .i64 er]) ∧ Below w.heap.size w w' ∧ StsAt w'.heap.size w' (.slice ad n cap) mm) := by
  obtain ⟨f1, f2⟩ := fine_good hx
  cases hg : goodB xs with
  | false =>
    refine ⟨0, 80, [], fun w w' e h => ⟨none, 0, 0, h.no hg, h.bel, nil_sts w'⟩, fun w w' e h _ _ => ⟨none, 0, 0, h.no (by rw [f1, hg]), h.bel, nil_sts w'⟩⟩
  | true =>
    obtain ⟨g1, g2⟩ := f2 hg
    refine ⟨((rdAll xs).1 : Int), 0, (rdAll xs).2.1, fun w w' e h => ?_, fun w w' e h hm hl => ?_⟩
    · obtain ⟨vs, e1, e2⟩ := h.yes hg
      obtain ⟨ad, cap, rfl⟩ := e2.shape
      exact ⟨ad, _, cap, e1, h.bel, e2.sts h.mb (by have := h.len; omega)⟩
    · obtain ⟨vs, m, st, e0, e1, e2⟩ := h.yes (by rw [f1, hg])
      rw [g2] at e0
      simp only [Option.some.injEq, Prod.mk.injEq] at e0
      obtain ⟨rfl, _⟩ := e0
      obtain ⟨ad, cap, rfl⟩ := e2.shape
      rw [g1] at e1
      exact ⟨ad, _, cap, e1, h.bel, e2.sts hm (by omega)⟩
set_option maxHeartbeats 4000000 in
theorem reads_walk (v : Value) (w : World) (ht : Tabs w) (xs : List Nat) (hrow : Cd.Row w.heap.size w v xs) (hlen : xs.length ≤ 140737488351232) (hx : ∀ x ∈ xs, x < 256) :
    Calls Tryz.prog 3 #[v] w fun e w' => e = .returned (.bool true) ∧ Below w.heap.size w w' := by
  obtain ⟨bs, er, mm, hA, hB⟩ := reads_both xs hx
  have HA : Hid (Calls Tryz.prog 6 #[v] w fun e w' => (∃ ad n cap, e = .returned (.tuple #[.agg #[.int .i64 bs, .slice ad n cap], .int .i64 er]) ∧ Below w.heap.size w w' ∧ StsAt w'.heap.size w' (.slice ad n cap) mm) ∧ MB (rdAll xs).2.1 ∧ (rdAll xs).2.1.length ≤ 98305) := (Unpack_any w.heap.size v xs w hrow (Nat.le_refl _) hx (by omega) ht).mono fun e w' h => ⟨hA w w' e h, h.mb, h.len⟩
  have HB : Hid (∀ w w' e, RUSays w w' xs e → MB (rdAll xs).2.1 → (rdAll xs).2.1.length ≤ 98305 → ∃ ad n cap, e = .returned (.tuple #[.agg #[.int .i64 bs, .slice ad n cap], .int .i64 er]) ∧ Below w.heap.size w w' ∧ StsAt w'.heap.size w' (.slice ad n cap) mm) := hB
  have HT : Hid (Tabs w) := ht
  have HR : Hid (Cd.Row w.heap.size w v xs) := hrow
  have HX : Hid (∀ x ∈ xs, x < 256) := hx
  obtain ⟨ao, cap, rfl, _⟩ := hrow.shape
  obtain ⟨N, hN⟩ : ∃ N, xs.length = N := ⟨_, rfl⟩
  have HN : Hid (xs.length = N) := hN
  rw [hN] at HA HR hlen ⊢
  clear hA hB ht hrow hx hN
  by_cases hbig : 2000 < N
  · have hbz : (2000 : Int) < (N : Int) := by omega
    go_enter Tryz.func3, Tryz.ntmps3
    go_wp2_with (go_at_call 5; refine (alive8_any _ HT.out).mono ?_; rintro e w3 ⟨rfl, hb3⟩; have HB3 : Hid (Below w.heap.size w w3) := hb3; clear hb3)
    go_ret
    exact ⟨rfl, HB3.out⟩
  · have hbz : ¬ (2000 : Int) < (N : Int) := by omega
    go_enter Tryz.func3, Tryz.ntmps3
    go_upto_region 4 with (go_at_call 6; refine HA.out.mono ?_; rintro e w1 ⟨⟨sd, sn, sc, rfl, hb1, hs1⟩, hm1, hl1⟩; have HB1 : Hid (Below w.heap.size w w1 ∧ StsAt w1.heap.size w1 (.slice sd sn sc) mm) := ⟨hb1, hs1⟩; have HM1 : Hid (MB (rdAll xs).2.1 ∧ (rdAll xs).2.1.length ≤ 98305) := ⟨hm1, hl1⟩; clear hb1 hs1 hm1 hl1)
    obtain ⟨mb, hmb⟩ : ∃ mb, w1.heap.size = mb := ⟨_, rfl⟩
    obtain ⟨W2, hW2⟩ : ∃ W2, w1.alloc (.cells #[.int .i64 bs, .slice sd sn sc] 26) = W2 := ⟨_, rfl⟩
    have HM2 : Hid (MX w W2 mb bs (.slice sd sn sc) mm) := by
      have hbl : Below w1.heap.size w1 W2 := by rw [← hW2]; exact (Below.refl _ w1).alloc (Nat.le_refl _) _
      exact ⟨HB1.out.1.trans (hbl.mono HB1.out.1.size), by rw [← hW2, ← hmb]; exact alloc_newP _ _, (HB1.out.2.below hbl).mono hbl.size⟩
    rw [hW2, hmb]
    clear hW2 hmb
    have HU : Hid (Calls Tryz.prog 7 #[.slice ao N cap] W2 fun e w' => ∃ ad n cap, e = .returned (.tuple #[.agg #[.int .i64 bs, .slice ad n cap], .int .i64 er]) ∧ Below W2.heap.size W2 w' ∧ StsAt w'.heap.size w' (.slice ad n cap) mm) :=
      (refUnpack_any W2 (.slice ao N cap) xs ((HR.out.below HM2.out.bel).mono HM2.out.bel.size) HX.out (by have := HN.out; omega)).mono fun e w' h => HB.out W2 w' e h HM1.out.1 HM1.out.2
    go_upto_region 5 with (go_at_call 7; refine HU.out.mono ?_; rintro e w3 ⟨td, tn, tc, rfl, hb3, hs3⟩; have HM3 : Hid (MX w w3 mb bs (.slice sd sn sc) mm) := HM2.out.below hb3; have HS3 : Hid (StsAt w3.heap.size w3 (.slice td tn tc) mm) := hs3; clear hb3 hs3)
    obtain ⟨nb, hnb⟩ : ∃ nb, w3.heap.size = nb := ⟨_, rfl⟩
    obtain ⟨W4, hW4⟩ : ∃ W4, w3.alloc (.cells #[.int .i64 bs, .slice td tn tc] 26) = W4 := ⟨_, rfl⟩
    have hM4 : MX w W4 mb bs (.slice sd sn sc) mm ∧ MX w W4 nb bs (.slice td tn tc) mm := by
      have hbl : Below w3.heap.size w3 W4 := by rw [← hW4]; exact (Below.refl _ w3).alloc (Nat.le_refl _) _
      have h1 := HM3.out.below hbl
      exact ⟨h1, h1.bel, by rw [← hW4, ← hnb]; exact alloc_newP _ _, (HS3.out.below hbl).mono hbl.size⟩
    have HMA : Hid (MX w W4 mb bs (.slice sd sn sc) mm) := hM4.1
    have HMB : Hid (MX w W4 nb bs (.slice td tn tc) mm) := hM4.2
    rw [hW4, hnb]
    clear hW4 hnb hM4
    obtain ⟨a0, a1⟩ := HMA.out.facts
    obtain ⟨b0, b1⟩ := HMB.out.facts
    clear a0 a1 b0 b1
    go_wp2_with (first
      | (go_at_call 5; refine (alive8_any _ (HT.out.below HMA.out.bel)).mono ?_; rintro e w5 ⟨rfl, hb5⟩; have HMA5 : Hid (MX w w5 mb bs (.slice sd sn sc) mm) := HMA.out.below hb5; have HMB5 : Hid (MX w w5 nb bs (.slice td tn tc) mm) := HMB.out.below hb5; clear hb5; obtain ⟨a0, a1⟩ := HMA5.out.facts; obtain ⟨b0, b1⟩ := HMB5.out.facts)
      | (go_at_call 8; refine (sameR_any w5.heap.size w5 bs bs _ _ mm mm HMA5.out.sts HMB5.out.sts (Nat.le_refl _)).mono ?_; rintro e w6 ⟨rfl, hb6⟩; have HB6 : Hid (Below w.heap.size w w6) := HMA5.out.bel.trans (hb6.mono HMA5.out.bel.size); clear hb6 a0 a1 b0 b1))
    go_ret
    exact ⟨by first | rfl | simp, HB6.out⟩
end Go.Proofs.YtllmdfkiogmofaaGreatDoor
