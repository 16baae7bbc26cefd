/- formed: each state by itself. -/
import Derived.Test.YtdidcombjmbkdaaDoorPkOrd
namespace Go.Proofs.YtdidcombjmbkdaaDoor
open Go.RowKit Nums Fm Pk
set_option maxRecDepth 100000

theorem Pk.form_at {m : List RSt} {k : Nat} {s : RSt} (h : m[k]? = some s) : formB k (m.drop k) = (formS s k && formB (k + 1) (m.drop (k + 1))) := by
  obtain ⟨hk, rfl⟩ := List.getElem?_eq_some_iff.1 h
  rw [List.drop_eq_getElem_cons hk, formB]
set_option maxHeartbeats 4000000 in
theorem formed_any (E : Nat) (w : World) (m : List RSt) (vs : Value) (h : StsAt E w vs m) (hE : E ≤ w.heap.size) (hT : Tabs w) :
    Calls Tryd.prog 18 #[vs] w fun e w' => e = .returned (.bool (formB 0 m)) ∧ Below w.heap.size w w' := by
  obtain ⟨ad, cap, rfl⟩ := h.shape
  obtain ⟨n, hn⟩ : ∃ n, m.length = n := ⟨_, rfl⟩
  have HN : Hid (m.length = n) := hn
  have HR : Hid (StsAt E w (.slice ad m.length cap) m) := h
  have hl := h.len
  rw [hn] at HR hl ⊢
  have HT : Hid (Tabs w) := hT
  clear h hn hT
  go_enter Tryd.func18, Tryd.ntmps18
  go_wp2
  go_loopg [3, 4, 7] n (fun gm _ _ s7 wr => ∃ (k : Nat), s7 = .int .i64 k ∧ k ≤ n ∧ n - k ≤ gm ∧ Hid (formB 0 m = formB k (m.drop k)) ∧ Hid (Below w.heap.size w wr))
  case atStart => exact ⟨0, rfl, Nat.zero_le _, by omega, rfl, Below.refl _ _⟩
  case round =>
    obtain ⟨k, rfl, hk, hgm, HO, HB⟩ := hrel
    by_cases hlt : k < n
    · have hltz : (k : Int) < (n : Int) := by omega
      obtain ⟨s, hs⟩ : ∃ s, m[k]? = some s := ⟨m[k]'(by have := HN.out; omega), List.getElem?_eq_getElem _⟩
      have hRw := HR.out.below (HB.out.mono hE)
      obtain ⟨g, off, va, rfl, hg, c0, c1, c2, hA⟩ := hRw.at hs
      obtain ⟨vd, vc, hva⟩ := hA.shape
      obtain ⟨na, hna⟩ : ∃ na, s.arcs.length = na := ⟨_, rfl⟩
      rw [hna] at hva
      subst hva
      have HFA : Hid (formB 0 m = (formS s k && formB (k + 1) (m.drop (k + 1)))) := HO.out.trans (form_at hs)
      obtain ⟨sb, hsb⟩ : ∃ sb, sb = wr.heap.size := ⟨_, rfl⟩
      obtain ⟨W1, hW1⟩ : ∃ W1, W1 = wr.alloc (.cells #[.bool s.final, .int .i64 s.out, .slice vd na vc] 44) := ⟨_, rfl⟩
      have hn1 : W1.heap[sb]? = some (.cells #[.bool s.final, .int .i64 s.out, .slice vd na vc] 44) := by rw [hW1, hsb]; exact alloc_newP _ _
      have hb1 : Below wr.heap.size wr W1 := by rw [hW1]; exact (Below.refl _ wr).alloc (Nat.le_refl _) _
      have HBW : Hid (Below w.heap.size w W1) := HB.out.trans (hb1.mono HB.out.size)
      have HAt : Hid (ArcsAt E W1 (.slice vd na vc) s.arcs) := hA.below (hb1.mono (Nat.le_trans hE HB.out.size))
      have HCL : Hid (∀ W, Below W1.heap.size W1 W → W.cell? ⟨sb, 0, none⟩ = some (.bool s.final) ∧ W.cell? ⟨sb, 1, none⟩ = some (.int .i64 s.out) ∧ W.cell? ⟨sb, 2, none⟩ = some (.slice vd na vc)) := fun W hW => by
        have h1 : W.heap[sb]? = W1.heap[sb]? := hW.block sb (Array.getElem?_eq_some_iff.1 hn1).1
        exact ⟨by simp [World.cell?, h1, hn1], by simp [World.cell?, h1, hn1], by simp [World.cell?, h1, hn1]⟩
      have HE1 : Hid (E ≤ W1.heap.size) := Nat.le_trans hE HBW.out.size
      have HPL : Hid (Calls Tryd.prog 35 #[.agg #[.bool s.final, .int .i64 s.out, .slice vd na vc]] W1 fun e w' => e = .returned (.int .i64 (leastS s)) ∧ Below W1.heap.size W1 w') := pleast_any E W1 s _ HAt.out HE1.out
      have HOR : Hid (∀ W, Below W1.heap.size W1 W → Calls Tryd.prog 36 #[.slice vd na vc, .int .i64 k] W fun e w' => e = .returned (.bool (ordB k none s.arcs)) ∧ Below W1.heap.size W1 w') := fun W hW => by
        refine (ordered_any E W s.arcs _ k (HAt.out.below (hW.mono HE1.out)) (Nat.le_trans HE1.out hW.size) (HT.out.below (HBW.out.trans (hW.mono HBW.out.size)))).mono ?_
        rintro e w' ⟨rfl, h2⟩
        exact ⟨rfl, hW.trans (h2.mono hW.size)⟩
      obtain ⟨a0, a1, a2⟩ := HCL.out W1 (Below.refl _ _)
      clear hs hRw hA hna hn1 hb1 HO
      go_upto_region 4 with fail
      rw [← hsb, ← hW1]
      clear hsb hW1 c0 c1 c2
      unfold formS at HFA
      generalize leastS s = L at *
      generalize ordB (k : Int) none s.arcs = O at *
      generalize s.arcs = arcs at *
      generalize s.final = fn at *
      generalize s.out = ot at *
      by_cases h1 : fn = false ∧ ¬ ot = 0
      · obtain ⟨rfl, h1⟩ := h1
        have HF : Hid (formB 0 m = false) := by show _ = _; rw [HFA.out, decide_eq_false h1]; rfl
        have h1b : (ot == 0) = false := beq_eq_false_iff_ne.2 h1
        have h1n : (ot != 0) = true := by simp [bne, h1b]
        go_wp2
        go_ret
        exact ⟨by rw [HF.out]; rfl, HBW.out⟩
      · have h1x : (fn || decide (ot = 0)) = true := by
          cases fn with
          | true => rfl
          | false => simp only [Bool.false_or, decide_eq_true_eq]; exact Decidable.byContradiction fun h => h1 ⟨rfl, h⟩
        rw [h1x] at HFA
        clear h1
        cases fn with
        | true =>
          clear h1x
          by_cases hL : L = 0
          · subst hL
            cases O with
            | false =>
              have HF : Hid (formB 0 m = false) := by show _ = _; rw [HFA.out]; simp
              clear HFA
              go_wp2_with (first
                | (go_at_call 35; refine HPL.out.mono ?_; rintro e w2 ⟨rfl, hb2⟩; have HB2 : Hid (Below W1.heap.size W1 w2) := hb2; clear hb2; obtain ⟨p0, p1, p2⟩ := HCL.out w2 HB2.out)
                | (go_at_call 36; refine (HOR.out _ HB2.out).mono ?_; rintro e w3 ⟨rfl, hb3⟩; have HB3 : Hid (Below W1.heap.size W1 w3) := hb3; clear hb3))
              go_ret
              exact ⟨by rw [HF.out]; rfl, HBW.out.trans (HB3.out.mono HBW.out.size)⟩
            | true =>
              have HF : Hid (formB 0 m = formB (k + 1) (m.drop (k + 1))) := by show _ = _; rw [HFA.out]; simp
              clear HFA
              go_wp2_with (first
                | (go_at_call 35; refine HPL.out.mono ?_; rintro e w2 ⟨rfl, hb2⟩; have HB2 : Hid (Below W1.heap.size W1 w2) := hb2; clear hb2; obtain ⟨p0, p1, p2⟩ := HCL.out w2 HB2.out)
                | (go_at_call 36; refine (HOR.out _ HB2.out).mono ?_; rintro e w3 ⟨rfl, hb3⟩; have HB3 : Hid (Below W1.heap.size W1 w3) := hb3; clear hb3))
              go_roundg (n - (k + 1))
              case measure => omega
              case rel => exact ⟨k + 1, by go_num, by omega, Nat.le_refl _, HF, HBW.out.trans (HB3.out.mono HBW.out.size)⟩
          · have HF : Hid (formB 0 m = false) := by show _ = _; rw [HFA.out, decide_eq_false hL]; simp
            have h1b : (L == 0) = false := beq_eq_false_iff_ne.2 hL
            have h1n : (L != 0) = true := by simp [bne, h1b]
            clear HFA
            go_wp2_with (first
              | (go_at_call 35; refine HPL.out.mono ?_; rintro e w2 ⟨rfl, hb2⟩; have HB2 : Hid (Below W1.heap.size W1 w2) := hb2; clear hb2; obtain ⟨p0, p1, p2⟩ := HCL.out w2 HB2.out)
              | (go_at_call 36; refine (HOR.out _ HB2.out).mono ?_; rintro e w3 ⟨rfl, hb3⟩; have HB3 : Hid (Below W1.heap.size W1 w3) := hb3; clear hb3))
            go_ret
            exact ⟨by rw [HF.out]; rfl, HBW.out.trans (HB2.out.mono HBW.out.size)⟩
        | false =>
          have h0 : ot = 0 := by simpa using h1x
          subst h0
          clear h1x
          by_cases hL : L = 0
          · subst hL
            cases O with
            | false =>
              have HF : Hid (formB 0 m = false) := by show _ = _; rw [HFA.out]; simp
              clear HFA
              go_wp2_with (first
                | (go_at_call 35; refine HPL.out.mono ?_; rintro e w2 ⟨rfl, hb2⟩; have HB2 : Hid (Below W1.heap.size W1 w2) := hb2; clear hb2; obtain ⟨p0, p1, p2⟩ := HCL.out w2 HB2.out)
                | (go_at_call 36; refine (HOR.out _ HB2.out).mono ?_; rintro e w3 ⟨rfl, hb3⟩; have HB3 : Hid (Below W1.heap.size W1 w3) := hb3; clear hb3))
              go_ret
              exact ⟨by rw [HF.out]; rfl, HBW.out.trans (HB3.out.mono HBW.out.size)⟩
            | true =>
              have HF : Hid (formB 0 m = formB (k + 1) (m.drop (k + 1))) := by show _ = _; rw [HFA.out]; simp
              clear HFA
              go_wp2_with (first
                | (go_at_call 35; refine HPL.out.mono ?_; rintro e w2 ⟨rfl, hb2⟩; have HB2 : Hid (Below W1.heap.size W1 w2) := hb2; clear hb2; obtain ⟨p0, p1, p2⟩ := HCL.out w2 HB2.out)
                | (go_at_call 36; refine (HOR.out _ HB2.out).mono ?_; rintro e w3 ⟨rfl, hb3⟩; have HB3 : Hid (Below W1.heap.size W1 w3) := hb3; clear hb3))
              go_roundg (n - (k + 1))
              case measure => omega
              case rel => exact ⟨k + 1, by go_num, by omega, Nat.le_refl _, HF, HBW.out.trans (HB3.out.mono HBW.out.size)⟩
          · have HF : Hid (formB 0 m = false) := by show _ = _; rw [HFA.out, decide_eq_false hL]; simp
            have h1b : (L == 0) = false := beq_eq_false_iff_ne.2 hL
            have h1n : (L != 0) = true := by simp [bne, h1b]
            clear HFA
            go_wp2_with (first
              | (go_at_call 35; refine HPL.out.mono ?_; rintro e w2 ⟨rfl, hb2⟩; have HB2 : Hid (Below W1.heap.size W1 w2) := hb2; clear hb2; obtain ⟨p0, p1, p2⟩ := HCL.out w2 HB2.out)
              | (go_at_call 36; refine (HOR.out _ HB2.out).mono ?_; rintro e w3 ⟨rfl, hb3⟩; have HB3 : Hid (Below W1.heap.size W1 w3) := hb3; clear hb3))
            go_ret
            exact ⟨by rw [HF.out]; rfl, HBW.out.trans (HB2.out.mono HBW.out.size)⟩
    · have hltz : ¬ (k : Int) < (n : Int) := by omega
      have HE : Hid (formB 0 m = true) := by
        show _ = _
        rw [HO.out, List.drop_of_length_le (by have := HN.out; omega)]
        rfl
      go_wp2
      go_ret
      exact ⟨by rw [HE.out]; rfl, HB.out⟩
end Go.Proofs.YtdidcombjmbkdaaDoor
