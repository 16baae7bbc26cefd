/- FuzzyExact: the law's own walk. -/
import Derived.Test.YthfngcpcccbnpaaDoorFzLawA
namespace Go.Proofs.YthfngcpcccbnpaaDoor
open Go.RowKit Go.Shelf Go.Lib Nums Fm Pk Pm Fz Ed Lv
set_option maxRecDepth 100000

theorem same_word {x : Pr} {word : ByteArray} {xs : List Int} (hw : wordB x.1.data.toList = true) (hx : rs word.data.toList = some xs) : lv (entOf x).1 xs ≤ 0 ↔ x.1 = word := by
  obtain ⟨ys, h1, _⟩ := word_runes hw
  have e : (entOf x).1 = ys := by rw [entOf, h1]; rfl
  rw [e, Nat.le_zero, lv_zero]
  constructor
  · intro h
    have e1 := text_entW (x := x) ⟨ys, h1⟩
    have e2 := text_entW (x := (word, 0)) ⟨xs, hx⟩
    have e3 : (entOf (word, 0)).1 = xs := by rw [entOf, hx]; rfl
    rw [e, h] at e1
    rw [e3] at e2
    exact e1.symm.trans e2
  · intro h
    rw [h, hx] at h1
    exact (Option.some.inj h1).symm
theorem near_none {word : ByteArray} {xs : List Int} (hx : rs word.data.toList = some xs) : ∀ {l : List Pr}, (∀ x ∈ l, wordB x.1.data.toList = true) → (∀ x ∈ l, x.1 ≠ word) → nearOf xs 0 l = []
  | [], _, _ => rfl
  | x :: r, h, hn => by
    have ih := near_none hx (l := r) (fun y hy => h y (by simp [hy])) (fun y hy => hn y (by simp [hy]))
    unfold nearOf at ih ⊢
    rw [List.filterMap_cons, if_neg (fun g => hn x (by simp) ((same_word (h x (by simp)) hx).1 g))]
    exact ih
theorem near_zero {word : ByteArray} {xs : List Int} (hx : rs word.data.toList = some xs) : ∀ {l : List Pr}, (∀ x ∈ l, wordB x.1.data.toList = true) → l.Pairwise (fun a b => lessB a.1 b.1 = true) → nearOf xs 0 l = match Pm.find l word with | some n => [(word, n, 0)] | none => []
  | [], _, _ => rfl
  | x :: r, h, hp => by
    obtain ⟨h1, h2⟩ := List.pairwise_cons.1 hp
    have hw := fun y (hy : y ∈ r) => h y (by simp [hy])
    have ih := near_zero hx (l := r) hw h2
    rw [Pm.find_cons]
    by_cases hxw : x.1 = word
    · have hno : ∀ y ∈ r, y.1 ≠ word := fun y hy e => by
        have := h1 y hy
        rw [e, hxw, lessB_sto.irr] at this
        cases this
      rw [Pm.find_none_of hno, if_pos hxw]
      have h3 := near_none hx hw hno
      unfold nearOf at h3 ⊢
      have hle := (same_word (h x (by simp)) hx).2 hxw
      rw [List.filterMap_cons, if_pos hle, h3]
      have h4 : lv (entOf x).1 xs = 0 := by omega
      simp [hxw, h4]
    · rw [if_neg hxw, Option.or_none, ← ih]
      unfold nearOf
      rw [List.filterMap_cons, if_neg (fun g => hxw ((same_word (h x (by simp)) hx).1 g))]
/-- What All comes to without edits. -/
theorem all_zero {l : List Pr} (hC : buildE l = 0) (word : ByteArray) : (∀ n, Pm.find l word = some n → allL l word.data.toList 0 = [(word, n, 0)] ∧ allC word.data.toList 0 = 0) ∧ (Pm.find l word = none → allL l word.data.toList 0 = []) := by
  obtain ⟨hall, hpw, _⟩ := built_all hC
  have hr : Go.Proofs.YthfngcpcccbnpaaDoor.rightB word.data.toList 0 = wordB word.data.toList := by simp [Go.Proofs.YthfngcpcccbnpaaDoor.rightB]
  have key : wordB word.data.toList = true → allL l word.data.toList 0 = match Pm.find l word with | some n => [(word, n, 0)] | none => [] := fun hw => by
    obtain ⟨xs, h1, _⟩ := word_runes (x := (word, 0)) hw
    rw [allL, hr, if_pos hw, h1]
    exact near_zero h1 (fun x hx => (hall x hx).1) hpw
  constructor
  · intro n hn
    have hw : wordB word.data.toList = true := (hall _ (Pm.find_mem hn)).1
    have h2 := key hw
    rw [hn] at h2
    exact ⟨h2, by rw [allC, hr, if_pos hw]⟩
  · intro hn
    cases hw : wordB word.data.toList with
    | true =>
      have h2 := key hw
      rw [hn] at h2
      exact h2
    | false => rw [allL, hr, hw]; rfl
set_option maxHeartbeats 4000000 in
theorem fexact_walk (v : Value) (s : ByteArray) (w : World) (ht : Tabs w) (l : List Pr) (h : PRow w v l) (hs : Sm l) (hl : l.length ≤ 9223372036854775807) (hz : s.size ≤ maxLen) :
    Calls Tryd.prog 5 #[v, .string s] w fun e w' => e = .returned (.bool true) ∧ Below w.heap.size w w' := by
  have hz : s.size ≤ 9223372036854775807 := by unfold maxLen at hz; omega
  have HAL : Hid (∀ W, Below w.heap.size w W → Calls Tryd.prog 9 #[] W fun e w' => e = .returned (.bool true) ∧ Below W.heap.size W w') := fun W hW => alive12_any W (ht.below hW)
  cases hb : onB l with
  | false =>
    have HON : Hid (Calls Tryd.prog 8 #[v] w fun e w' => e = .returned (.tuple #[.pointer none, .bool false]) ∧ Below w.heap.size w w') := on12_no w v l h hl hs hb
    obtain ⟨ad, cap, rfl⟩ := h.form
    clear h ht hs hb
    go_enter Tryd.func5, Tryd.ntmps5
    go_wp2_with (first
      | (go_at_call 8; refine HON.out.mono ?_; rintro e w1 ⟨rfl, hb1⟩; have HB1 : Hid (Below w.heap.size w w1) := hb1; clear hb1)
      | (go_at_call 9; refine (HAL.out _ HB1.out).mono ?_; rintro e w2 ⟨rfl, hb2⟩))
    go_ret
    exact ⟨rfl, HB1.out.trans (hb2.mono HB1.out.size)⟩
  | true =>
    have hC := on_ok hb
    have HON : Hid (Calls Tryd.prog 8 #[v] w fun e w' => ∃ wb, e = .returned (.tuple #[.pointer (some ⟨wb, 0, none⟩), .bool true]) ∧ w.heap.size ≤ wb ∧ WkOn w' wb l ∧ Below w.heap.size w w') := on12_yes w ht v l h hl hs hb
    obtain ⟨z1, z2⟩ := all_zero hC s
    have HALL : Hid (∀ W wb, WkOn W wb l → Calls Tryd.prog 10 #[.pointer (some ⟨wb, 0, none⟩), .string s, .int .i64 0] W fun x w' => ∃ ad cap, x = .returned (.tuple #[.slice ad (allL l s.data.toList 0).length cap, .int .i64 (allC s.data.toList 0)]) ∧ MRow w' (.slice ad (allL l s.data.toList 0).length cap) (allL l s.data.toList 0) ∧ Below W.heap.size W w') := fun W wb hW => All_told W wb l hW s 0 hz
    have HRF : Hid (∀ W, Below w.heap.size w W → Calls Tryd.prog 13 #[v, .string s] W fun e w' => e = .returned (.tuple #[.int .i64 ((Pm.find l s).getD 0), .bool (Pm.find l s).isSome]) ∧ w' = W) := fun W hW => refFind_any W v l s (h.below hW) hl
    obtain ⟨ad, cap, rfl⟩ := h.form
    cases hfd : Pm.find l s with
    | none =>
      rw [z2 hfd] at HALL
      rw [hfd] at HRF
      simp only [Option.getD_none, Option.isSome_none, List.length_nil] at HRF HALL
      obtain ⟨C, hC0⟩ : ∃ C, allC s.data.toList 0 = C := ⟨_, rfl⟩
      rw [hC0] at HALL
      clear h ht hs hb hC z1 z2 hfd hC0
      go_enter Tryd.func5, Tryd.ntmps5
      go_wp2_with (first
        | (go_at_call 8; refine HON.out.mono ?_; rintro e w1 ⟨wb, rfl, hlo, hon, hb1⟩; have HB1 : Hid (Below w.heap.size w w1) := hb1; have HW : Hid (WkOn w1 wb l) := hon; clear hb1 hon hlo)
        | (go_at_call 10; refine (HALL.out _ _ HW.out).mono ?_; rintro x w2 ⟨a2, c2, rfl, hm2, hb2⟩; have HB2 : Hid (Below w.heap.size w w2) := HB1.out.trans (hb2.mono HB1.out.size); clear hb2 hm2)
        | (go_at_call 13; refine (HRF.out _ HB2.out).mono ?_; rintro x w3 ⟨rfl, hw3⟩; rw [hw3]; clear hw3)
        | (go_at_call 9; refine (HAL.out _ HB2.out).mono ?_; rintro e w4 ⟨rfl, hb4⟩; have HB4 : Hid (Below w.heap.size w w4) := HB2.out.trans (hb4.mono HB2.out.size); clear hb4))
      all_goals (go_ret; exact ⟨by first | rfl | simp, HB4.out⟩)
    | some n =>
      obtain ⟨y1, y2⟩ := z1 n hfd
      rw [y1, y2] at HALL
      rw [hfd] at HRF
      simp only [Option.getD_some, Option.isSome_some, List.length_singleton] at HRF HALL
      have s1 : (s.toList == s.toList) = true := by simp
      have s2 : (n == n) = true := by simp
      have HCL : Hid (∀ W a c, MRow W (.slice a 1 c) [(s, n, (0 : Int))] → ∃ g off, a = some ⟨g, off, none⟩ ∧ ∀ W', Below W.heap.size W W' → W'.cell? ⟨g, off, none⟩ = some (.string s) ∧ W'.cell? ⟨g, off + 1, none⟩ = some (.int .i64 n) ∧ W'.cell? ⟨g, off + 2, none⟩ = some (.int .i64 0)) := fun W a c hm => by
        obtain ⟨g, off, e, hg, hc⟩ := hm.at (by simp)
        obtain ⟨c0, c1, c2⟩ := hc 0 (s, n, (0 : Int)) rfl
        simp only [Nat.zero_mul, Nat.add_zero] at c0 c1 c2
        exact ⟨g, off, e, fun W' hb => ⟨(hb.cell (p := ⟨g, off, none⟩) hg).trans c0, (hb.cell (p := ⟨g, off + 1, none⟩) hg).trans c1, (hb.cell (p := ⟨g, off + 2, none⟩) hg).trans c2⟩⟩
      clear h ht hs hb hC z1 z2 hfd y1 y2
      go_enter Tryd.func5, Tryd.ntmps5
      go_wp2_with (first
        | (go_at_call 8; refine HON.out.mono ?_; rintro e w1 ⟨wb, rfl, hlo, hon, hb1⟩; have HB1 : Hid (Below w.heap.size w w1) := hb1; have HW : Hid (WkOn w1 wb l) := hon; clear hb1 hon hlo)
        | (go_at_call 10; refine (HALL.out _ _ HW.out).mono ?_; rintro x w2 ⟨a2, c2, rfl, hm2, hb2⟩; have HB2 : Hid (Below w.heap.size w w2) := HB1.out.trans (hb2.mono HB1.out.size); obtain ⟨g, off, ha2, hcl⟩ := HCL.out _ _ _ hm2; have HCC : Hid _ := hcl; subst ha2; clear hb2 hm2 hcl)
        | (go_at_call 13; refine (HRF.out _ HB2.out).mono ?_; rintro x w3 ⟨rfl, hw3⟩; rw [hw3]; clear hw3)
        | (go_at_call 9; refine (HAL.out _ HB2.out).mono ?_; rintro e w4 ⟨rfl, hb4⟩; obtain ⟨d0, d1, d2⟩ := HCC.out w4 hb4; have HB4 : Hid (Below w.heap.size w w4) := HB2.out.trans (hb4.mono HB2.out.size); clear hb4))
      go_ret
      exact ⟨by first | rfl | simp, HB4.out⟩
end Go.Proofs.YthfngcpcccbnpaaDoor
