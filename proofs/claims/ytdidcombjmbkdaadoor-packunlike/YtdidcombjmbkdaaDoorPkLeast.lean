/- least, ofWords: of a state, of a rune. -/
import Derived.Test.YtdidcombjmbkdaaDoorPkBase
import Derived.Test.YtdidcombjmbkdaaDoorTxA
namespace Go.Proofs.YtdidcombjmbkdaaDoor
open Go.RowKit Nums Fm Pk
set_option maxRecDepth 100000

theorem minF_snoc {l : List RArc} {k : Nat} {a : RArc} (h : l[k]? = some a) (m : Int) : minF m (l.take (k + 1)) = min (minF m (l.take k)) a.out := by
  have : ∀ (x : List RArc) (m : Int), minF m (x ++ [a]) = min (minF m x) a.out := fun x => by
    induction x with
    | nil => intro m; rfl
    | cons y r ih => intro m; exact ih _
  rw [List.take_add_one, h]
  exact this _ _
set_option maxHeartbeats 1000000 in
theorem pleast_any (E : Nat) (w : World) (s : RSt) (va : Value) (h : ArcsAt E w va s.arcs) (hE : E ≤ w.heap.size) :
    Calls Tryd.prog 35 #[.agg #[.bool s.final, .int .i64 s.out, va]] w fun e w' => e = .returned (.int .i64 (leastS s)) ∧ Below w.heap.size w w' := by
  obtain ⟨ad, cap, rfl⟩ := h.shape
  obtain ⟨n, hn⟩ : ∃ n, s.arcs.length = n := ⟨_, rfl⟩
  have HN : Hid (s.arcs.length = n) := hn
  have HR : Hid (ArcsAt E w (.slice ad s.arcs.length cap) s.arcs) := h
  have hl := h.len
  rw [hn] at HR hl ⊢
  clear h hn
  obtain ⟨M, hM⟩ : ∃ M : Int, M = if s.final then s.out else 9223372036854775807 := ⟨_, rfl⟩
  have HM : Hid (minF M s.arcs = leastS s) := by show _ = _; rw [hM]; rfl
  cases hf : s.final with
  | true =>
    rw [hf, if_pos rfl] at hM
    subst hM
    generalize s.out = M at *
    clear hf
    go_enter Tryd.func35, Tryd.ntmps35
    go_wp2
    go_loopg [3, 5, 13] n (fun gm s3 _ s13 wr => ∃ (k : Nat), s13 = .int .i64 k ∧ k ≤ n ∧ n - k ≤ gm ∧ s3 = .int .i64 (minF M (s.arcs.take k)) ∧ Hid (Below w.heap.size w wr))
    case atStart => exact ⟨0, rfl, Nat.zero_le _, by omega, by simp [minF], (Below.refl _ _).alloc (Nat.le_refl _) _⟩
    case round =>
      obtain ⟨k, rfl, hk, hgm, rfl, HB⟩ := hrel
      by_cases hlt : k < n
      · have hltz : (k : Int) < (n : Int) := by omega
        obtain ⟨x, hx⟩ : ∃ x, s.arcs[k]? = some x := ⟨s.arcs[k]'(by have := HN.out; omega), List.getElem?_eq_getElem _⟩
        obtain ⟨g, off, rfl, hg, c0, c1, c2⟩ := (HR.out.below (HB.out.mono hE)).at hx
        have HS : Hid (minF M (s.arcs.take (k + 1)) = min (minF M (s.arcs.take k)) x.out) := minF_snoc hx _
        have HB2 : Hid (∀ o, Below w.heap.size w (wr.alloc o)) := fun o => HB.out.alloc HB.out.size o
        clear hx
        generalize minF M (s.arcs.take k) = m at *
        go_wp2
        all_goals
          go_roundg (n - (k + 1))
          case measure => omega
          case rel => exact ⟨k + 1, by go_num, by omega, Nat.le_refl _, by rw [HS.out]; congr 1; omega, HB2.out _⟩
      · have hltz : ¬ (k : Int) < (n : Int) := by omega
        have HE : Hid (minF M (s.arcs.take k) = leastS s) := by show _ = _; rw [List.take_of_length_le (by have := HN.out; omega)]; exact HM.out
        go_wp2
        go_ret
        exact ⟨by rw [HE.out]; rfl, HB.out⟩
  | false =>
    rw [hf, if_neg (by decide)] at hM
    subst hM
    generalize s.out = so at *
    clear hf
    go_enter Tryd.func35, Tryd.ntmps35
    go_wp2
    obtain ⟨M, hMM⟩ : ∃ M : Int, M = 9223372036854775807 := ⟨_, rfl⟩
    rw [← hMM] at HM ⊢
    clear hMM
    go_loopg [3, 5, 13] n (fun gm s3 _ s13 wr => ∃ (k : Nat), s13 = .int .i64 k ∧ k ≤ n ∧ n - k ≤ gm ∧ s3 = .int .i64 (minF M (s.arcs.take k)) ∧ Hid (Below w.heap.size w wr))
    case atStart => exact ⟨0, rfl, Nat.zero_le _, by omega, by simp [minF], (Below.refl _ _).alloc (Nat.le_refl _) _⟩
    case round =>
      obtain ⟨k, rfl, hk, hgm, rfl, HB⟩ := hrel
      by_cases hlt : k < n
      · have hltz : (k : Int) < (n : Int) := by omega
        obtain ⟨x, hx⟩ : ∃ x, s.arcs[k]? = some x := ⟨s.arcs[k]'(by have := HN.out; omega), List.getElem?_eq_getElem _⟩
        obtain ⟨g, off, rfl, hg, c0, c1, c2⟩ := (HR.out.below (HB.out.mono hE)).at hx
        have HS : Hid (minF M (s.arcs.take (k + 1)) = min (minF M (s.arcs.take k)) x.out) := minF_snoc hx _
        have HB2 : Hid (∀ o, Below w.heap.size w (wr.alloc o)) := fun o => HB.out.alloc HB.out.size o
        clear hx
        generalize minF M (s.arcs.take k) = m at *
        go_wp2
        all_goals
          go_roundg (n - (k + 1))
          case measure => omega
          case rel => exact ⟨k + 1, by go_num, by omega, Nat.le_refl _, by rw [HS.out]; congr 1; omega, HB2.out _⟩
      · have hltz : ¬ (k : Int) < (n : Int) := by omega
        have HE : Hid (minF M (s.arcs.take k) = leastS s) := by show _ = _; rw [List.take_of_length_le (by have := HN.out; omega)]; exact HM.out
        go_wp2
        go_ret
        exact ⟨by rw [HE.out]; rfl, HB.out⟩
theorem word_one (r : Int) : (allR [r] && wordB (textS [r]).data.toList) = wordR r := by
  unfold allR wordR
  simp only [List.all_cons, List.all_nil, Bool.and_true]
  cases hr : isR r with
  | false => rfl
  | true =>
    have h1 : allR [r] = true := by simp [allR, hr]
    have h2 : (textS [r]).data.toList = [r].flatMap wr := by
      unfold textS
      rw [if_pos h1]
      show ((([r].flatMap wrI).map (fun n => UInt8.ofNat n.toNat)).toArray).toList = _
      rw [List.toList_toArray]
      exact flat_bytes [r]
    rw [h2, Bool.true_and, Bool.true_and]
    have h3 := rs_text (xs := [r]) (by simp [hr])
    unfold wordB
    rw [h3]
    simp
set_option maxHeartbeats 1000000 in
theorem ofWords_any (w : World) (r : Int) (hT : Tabs w) :
    Calls Tryd.prog 58 #[.int .i32 r] w fun e w' => e = .returned (.bool (wordR r)) ∧ Below w.heap.size w w' := by
  have hb0 : ∀ o, Below w.heap.size w (w.alloc o) := fun o => (Below.refl _ w).alloc (Nat.le_refl _) o
  have HT : Hid (∀ o, Tabs (w.alloc o)) := fun o => hT.below (hb0 o)
  have HB : Hid (∀ o, Below w.heap.size w (w.alloc o)) := hb0
  have HW : Hid ((allR [r] && wordB (textS [r]).data.toList) = wordR r) := word_one r
  have HSZ : Hid ((textS [r]).size ≤ 9223372036854775807) := by
    show _ ≤ _
    have h1 := flat_len [r]
    unfold textS
    split
    · show (List.toArray _).size ≤ _
      simp only [List.size_toArray, List.length_map]
      simp only [List.length_cons, List.length_nil] at h1
      omega
    · decide
  have HROW : Hid (∀ T, Row (w.alloc (.cells #[.int .i32 r] T)) (.slice (some ⟨w.heap.size, 0, none⟩) 1 1) [r]) := fun T => by
    refine ⟨_, 1, rfl, fun _ => ⟨_, 0, rfl, fun i hi => ?_⟩⟩
    have : i = 0 := by simpa using hi
    subst this
    simp
  have HTX : Hid (∀ T, Calls Tryd.prog 78 #[.slice (some ⟨w.heap.size, 0, none⟩) 1 1] (w.alloc (.cells #[.int .i32 r] T)) fun e w' => e = .returned (.tuple #[.string (textS [r]), .bool (allR [r])]) ∧ Below w.heap.size w w') := fun T => by
    refine (Text_any _ [r] _ (HT.out _) (HROW.out T) (by simp)).mono ?_
    rintro e w1 ⟨rfl, hb1⟩
    exact ⟨rfl, (HB.out _).trans (hb1.mono (HB.out (.cells #[.int .i32 r] T)).size)⟩
  have HWD : Hid (∀ w1, Below w.heap.size w w1 → Calls Tryd.prog 48 #[.string (textS [r])] w1 fun e w' => e = .returned (.bool (wordB (textS [r]).data.toList)) ∧ Below w.heap.size w w') := fun w1 hb1 => by
    refine (Word_any _ _ (hT.below hb1) HSZ.out).mono ?_
    rintro e w2 ⟨rfl, q, rfl⟩
    exact ⟨rfl, belowN hb1 q⟩
  clear hT hb0 HSZ HROW HT HB
  generalize allR [r] = A at *
  generalize wordB (textS [r]).data.toList = B at *
  generalize textS [r] = S at *
  go_enter Tryd.func58, Tryd.ntmps58
  cases A with
  | true =>
    go_wp2_with (first
      | (go_at_call 78; refine (HTX.out _).mono ?_; rintro e w1 ⟨rfl, hb1⟩; have HB1 : Hid (Below w.heap.size w w1) := hb1; clear hb1)
      | (go_at_call 48; refine (HWD.out _ HB1.out).mono ?_; rintro e w2 ⟨rfl, hb2⟩))
    go_ret
    exact ⟨by rw [← HW.out]; rfl, hb2⟩
  | false =>
    go_wp2_with (first
      | (go_at_call 78; refine (HTX.out _).mono ?_; rintro e w1 ⟨rfl, hb1⟩; have HB1 : Hid (Below w.heap.size w w1) := hb1; clear hb1))
    go_ret
    exact ⟨by rw [← HW.out]; rfl, HB1.out⟩
end Go.Proofs.YtdidcombjmbkdaaDoor
