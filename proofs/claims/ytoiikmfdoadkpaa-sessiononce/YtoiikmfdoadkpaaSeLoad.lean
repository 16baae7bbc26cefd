/- Is a row answered and never asked; slices.ContainsFunc with that; right. -/
import Derived.Test.YtoiikmfdoadkpaaSeClone
namespace Go.Proofs.Ytoiikmfdoadkpaa
open Go.RowKit Go.Lib
set_option maxRecDepth 100000
namespace Se
/-- An answer to nothing. -/
def badB (x : Rw) : Bool := decide (x.1 = 0) && !(x.2.1 == 0 && x.2.2.1 == 0 && x.2.2.2 == 0)
theorem bad_any (x : Rw) (w : World) : Calls Try.prog 29 #[valR x] w fun e w' => e = .returned (.bool (badB x)) ∧ Below w.heap.size w w' := by
  obtain ⟨q, c, s, h⟩ := x
  unfold badB valR
  simp only []
  by_cases h1 : q = 0
  · subst h1
    by_cases h2 : c = 0
    · subst h2
      by_cases h3 : s = 0
      · subst h3
        by_cases h4 : h = 0
        · subst h4
          go_enter Try.func29, Try.ntmps29
          go_wp2
          go_ret
          exact ⟨by simp, (Below.refl _ w).alloc (Nat.le_refl _) _⟩
        · have hq : (h == 0) = false := by simpa using h4
          go_enter Try.func29, Try.ntmps29
          go_wp2
          go_ret
          exact ⟨by simp [hq], (Below.refl _ w).alloc (Nat.le_refl _) _⟩
      · have hq : (s == 0) = false := by simpa using h3
        go_enter Try.func29, Try.ntmps29
        go_wp2
        go_ret
        exact ⟨by simp [hq], (Below.refl _ w).alloc (Nat.le_refl _) _⟩
    · have hq : (c == 0) = false := by simpa using h2
      go_enter Try.func29, Try.ntmps29
      go_wp2
      go_ret
      exact ⟨by simp [hq], (Below.refl _ w).alloc (Nat.le_refl _) _⟩
  · have hq : (q == 0) = false := by simpa using h1
    go_enter Try.func29, Try.ntmps29
    go_wp2
    go_ret
    exact ⟨by simp [h1], (Below.refl _ w).alloc (Nat.le_refl _) _⟩
attribute [local go_sem ↓] exec_load_R
/-- The place of the first bad one. -/
def IdxR (l : List Rw) (r : Int) : Prop := (r = -1 ∧ l.any badB = false) ∨ (0 ≤ r ∧ l.any badB = true)
def unaskedF : Value := .func (.func 29) #[] #[]
theorem any_step {l : List Rw} {k : Nat} {x : Rw} (h : l[k]? = some x) : (l.take (k + 1)).any badB = ((l.take k).any badB || badB x) := by
  obtain ⟨hk, ex⟩ := List.getElem?_eq_some_iff.1 h
  rw [List.take_succ_eq_append_getElem hk, ex, List.any_append]; simp
theorem any_of_get {l : List Rw} {k : Nat} {x : Rw} (h : l[k]? = some x) (hb : badB x = true) : l.any badB = true := List.any_eq_true.2 ⟨x, List.mem_of_getElem? h, hb⟩
set_option maxHeartbeats 2000000 in
theorem indexFuncR_any (B : Nat) (w : World) (v : Value) (l : List Rw) (h : GOwn 43 4 B w v (l.map cellsR)) (hl : l.length ≤ 4398046511104) :
    Calls Try.prog 30 #[v, unaskedF] w fun e w' => ∃ r : Int, e = .returned (.int .i64 r) ∧ Below w.heap.size w w' ∧ IdxR l r := by
  unfold unaskedF
  obtain ⟨ad, cap, hv, hcap⟩ := h.shape
  rw [List.length_map] at hv hcap
  obtain ⟨n, hn⟩ : ∃ n, l.length = n := ⟨_, rfl⟩
  have HN : Hid (l.length = n) := hn
  rw [hn] at hv hcap hl
  subst hv
  have HR : Hid (GOwn 43 4 B w (.slice ad n cap) (l.map cellsR)) := h
  have eg : ∀ args w, (callFunc 29 args).run Try.prog w = .ok (.enter 29 args) w := enters_of Try.func29 (by kernel_rfl) rfl
  clear h hn
  go_enter Try.func30, Try.ntmps30
  go_wp2
  go_loopg [5, 8] n (fun g _ s8 wr => ∃ (k : Nat), s8 = .int .i64 k ∧ k ≤ n ∧ n - k ≤ g ∧ Hid (Below w.heap.size w wr) ∧ Hid ((l.take k).any badB = false))
  case atStart => exact ⟨0, rfl, Nat.zero_le _, by omega, Below.refl _ _, by show (l.take 0).any _ = _; simp⟩
  case round =>
    obtain ⟨k, rfl, hk, hg, HB, HA⟩ := hrel
    by_cases hlt : k < n
    · have hltz : (k : Int) < (n : Int) := by omega
      have hkc : (k : Int) < (cap : Int) := by omega
      obtain ⟨x, hx⟩ : ∃ x, l[k]? = some x := ⟨l[k]'(by have := HN.out; omega), List.getElem?_eq_getElem _⟩
      obtain ⟨g1, cap1, hv1, hg1, hB9, hcap9, hc⟩ := (HR.out.below HB.out).cell (by rw [List.length_map, HN.out]; omega)
      simp only [Value.slice.injEq] at hv1
      obtain ⟨rfl, hn9, hc9⟩ := hv1
      clear hn9 hc9 hB9 hcap9
      have hxm : (l.map cellsR)[k]? = some (cellsR x) := by rw [List.getElem?_map, hx]; rfl
      have hld : loadR Try.prog (.pointer (some ⟨g1, k * 4, none⟩)) wr = .ok (valR x) wr := loadR_at (fun j u hj => hc k j _ u hxm hj)
      have HX : Hid (l[k]? = some x) := hx
      have HC := fun W => bad_any x W
      unfold valR at hld HC
      clear hx hc hxm
      cases hbx : badB x with
      | true =>
        rw [hbx] at HC
        go_wp2_with (first | (go_at_fn 29; refine (HC _).mono ?_; rintro e w2 ⟨rfl, hb2⟩) | (go_at_call 29; refine (HC _).mono ?_; rintro e w2 ⟨rfl, hb2⟩))
        go_ret
        exact ⟨_, rfl, HB.out.trans (hb2.mono HB.out.size), .inr ⟨by omega, any_of_get HX.out hbx⟩⟩
      | false =>
        rw [hbx] at HC
        go_wp2_with (first | (go_at_fn 29; refine (HC _).mono ?_; rintro e w2 ⟨rfl, hb2⟩) | (go_at_call 29; refine (HC _).mono ?_; rintro e w2 ⟨rfl, hb2⟩))
        go_roundg (n - (k + 1))
        case measure => omega
        case rel =>
          refine ⟨k + 1, by go_num, by omega, Nat.le_refl _, HB.out.trans (hb2.mono HB.out.size), ?_⟩
          show (l.take (k + 1)).any badB = false
          rw [any_step HX.out, HA.out, hbx]; rfl
    · have hltz : ¬ (k : Int) < (n : Int) := by omega
      go_wp2
      go_ret
      refine ⟨_, rfl, HB.out, .inl ⟨rfl, ?_⟩⟩
      have h := HA.out
      rw [List.take_of_length_le (by have := HN.out; omega)] at h
      exact h
theorem containsR_any (B : Nat) (w : World) (v : Value) (l : List Rw) (h : GOwn 43 4 B w v (l.map cellsR)) (hl : l.length ≤ 4398046511104) :
    Calls Try.prog 28 #[v, unaskedF] w fun e w' => e = .returned (.bool (l.any badB)) ∧ Below w.heap.size w w' := by
  obtain ⟨t, ht⟩ : ∃ t, l.any badB = t := ⟨_, rfl⟩
  have HI : Calls Try.prog 30 #[v, unaskedF] w fun e w' => ∃ r : Int, e = .returned (.int .i64 r) ∧ Below w.heap.size w w' ∧ (0 ≤ r ↔ t = true) := (indexFuncR_any B w v l h hl).mono fun e w' ⟨r, he, hb, hr⟩ => ⟨r, he, hb, by
    rcases hr with ⟨e1, e2⟩ | ⟨e1, e2⟩
    · rw [← ht, e1, e2]; simp
    · rw [← ht, e2]; simp [e1]⟩
  obtain ⟨ad, cap, rfl, _⟩ := h.shape
  rw [ht]
  unfold unaskedF at HI ⊢
  generalize (l.map cellsR).length = n at *
  clear h hl ht
  go_enter Try.func28, Try.ntmps28
  go_wp2_with (go_at_call 30; refine HI.mono ?_; rintro e w1 ⟨r, rfl, hb, hr⟩)
  go_ret
  refine ⟨?_, hb⟩
  have e : decide (0 ≤ r) = t := by cases t <;> simp_all
  rw [← e]; rfl
/-- May calls have made these rows? -/
def rightB (l : List Rw) : Bool := decide (l.length ≤ 4096) && !(l.any badB)
theorem right_any (B : Nat) (w : World) (p : Nat) (v : Value) (l : List Rw) (K : TAt B w p v l) (hl : l.length ≤ 4398046511104) : Calls Try.prog 25 #[.pointer (some ⟨p, 0, none⟩)] w fun e w' => e = .returned (.bool (rightB l)) ∧ Below w.heap.size w w' := by
  have HC := containsR_any B w v l K.row hl
  obtain ⟨ad, cap, rfl, _⟩ := K.form
  have c0 := K.c0
  unfold unaskedF at HC
  unfold rightB
  by_cases h1 : l.length ≤ 4096
  · have h2 : (l.length : Int) ≤ 4096 := by omega
    rw [decide_eq_true h1]
    clear K
    go_enter Try.func25, Try.ntmps25
    go_wp2_with (go_at_call 28; refine HC.mono ?_; rintro e w1 ⟨rfl, hb⟩)
    go_ret
    exact ⟨by simp, hb⟩
  · have h2 : ¬ (l.length : Int) ≤ 4096 := by omega
    rw [decide_eq_false h1]
    clear K
    go_enter Try.func25, Try.ntmps25
    go_wp2_with fail
    go_ret
    exact ⟨by simp, Below.refl _ _⟩
end Se
end Go.Proofs.Ytoiikmfdoadkpaa
