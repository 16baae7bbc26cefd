/- pairs.takesAway, slices.IndexFunc and slices.DeleteFunc with it; pairs.Merge. -/
import Derived.Test.YtjanhebckonbaaaDoorDelB
import Derived.Deep.Cut
namespace Go.Proofs.YtjanhebckonbaaaDoor
open Go.RowKit Go.Shelf Go.Lib Go.Sort Pm
set_option maxRecDepth 100000

set_option maxHeartbeats 400000 in
theorem takesAway_any (s : ByteArray) (n : Int) (w : World) : Calls Tryd.prog 30 #[.agg #[.string s, .int .i64 n]] w fun e w' => e = .returned (.bool (n == 0)) ∧ Below w.heap.size w w' := by
  go_enter Tryd.func30, Tryd.ntmps30
  go_wp2
  go_ret
  exact ⟨rfl, (Below.refl _ w).alloc (Nat.le_refl _) _⟩
/-- The place of the first pair of weight 0. -/
def IdxIs (l : List Pr) (r : Int) : Prop := (r = -1 ∧ ∀ x ∈ l, ¬ x.2 = 0) ∨ ∃ P x S, l = P ++ x :: S ∧ (∀ y ∈ P, ¬ y.2 = 0) ∧ x.2 = 0 ∧ r = (P.length : Nat)
set_option maxHeartbeats 2000000 in
theorem indexFunc_any (w : World) (v : Value) (l : List Pr) (h : PRow w v l) (hl : l.length < 549755813888) :
    Calls Tryd.prog 39 #[v, .func (.func 30) #[] #[]] w fun e w' => ∃ r : Int, e = .returned (.int .i64 r) ∧ Below w.heap.size w w' ∧ IdxIs l r := by
  obtain ⟨ad, cap, rfl⟩ := h.form
  have HR : Hid (PRow w (.slice ad l.length cap) l) := h
  obtain ⟨n, hn⟩ : ∃ n, l.length = n := ⟨_, rfl⟩
  have HN : Hid (l.length = n) := hn
  have eg : ∀ args w, (callFunc 30 args).run Tryd.prog w = .ok (.enter 30 args) w := enters_of Tryd.func30 (by kernel_rfl) rfl
  rw [hn] at HR hl
  clear h
  rw [hn]
  clear hn
  go_enter Tryd.func39, Tryd.ntmps39
  go_wp2
  go_loopg [5, 8] n (fun g _ s8 wr => ∃ (k : Nat), s8 = .int .i64 k ∧ k ≤ n ∧ n - k ≤ g ∧ Hid (Below w.heap.size w wr) ∧ Hid (∀ x ∈ l.take k, ¬ x.2 = 0))
  case atStart => exact ⟨0, rfl, Nat.zero_le _, by omega, Below.refl _ _, by show ∀ x ∈ l.take 0, _; simp⟩
  case round =>
    obtain ⟨k, rfl, hk, hg, HB, HA⟩ := hrel
    by_cases hlt : k < n
    · have hltz : (k : Int) < (n : Int) := by omega
      obtain ⟨x, hx⟩ : ∃ x, l[k]? = some x := ⟨l[k]'(by have := HN.out; omega), List.getElem?_eq_getElem _⟩
      obtain ⟨b, off, rfl, hb, hcell⟩ := (HR.out.below HB.out).at (by omega)
      obtain ⟨c0, c1⟩ := hcell k x hx
      have HX : Hid (l[k]? = some x) := hx
      clear hx hcell
      have hc := fun W => takesAway_any x.1 x.2 W
      by_cases h0 : x.2 = 0
      · have h0b : (x.2 == 0) = true := beq_iff_eq.2 h0
        have H0 : Hid (x.2 = 0) := h0
        clear h0
        go_wp2_with (first | (go_at_fn 30; refine (hc _).mono ?_; rintro e w2 ⟨rfl, hb2⟩) | (go_at_call 30; refine (hc _).mono ?_; rintro e w2 ⟨rfl, hb2⟩))
        go_ret
        obtain ⟨hk2, ex⟩ := List.getElem?_eq_some_iff.1 HX.out
        refine ⟨_, rfl, HB.out.trans (hb2.mono HB.out.size), .inr ⟨l.take k, x, l.drop (k + 1), ?_, HA.out, H0.out, ?_⟩⟩
        · rw [← ex, ← List.drop_eq_getElem_cons hk2, List.take_append_drop]
        · rw [List.length_take, Nat.min_eq_left (by omega)]
      · have h0b : (x.2 == 0) = false := beq_eq_false_iff_ne.2 h0
        have H0 : Hid (¬ x.2 = 0) := h0
        clear h0
        go_wp2_with (first | (go_at_fn 30; refine (hc _).mono ?_; rintro e w2 ⟨rfl, hb2⟩) | (go_at_call 30; refine (hc _).mono ?_; rintro e w2 ⟨rfl, hb2⟩))
        go_roundg (n - (k + 1))
        case measure => omega
        case rel =>
          refine ⟨k + 1, by go_num, by omega, Nat.le_refl _, HB.out.trans (hb2.mono HB.out.size), ?_⟩
          show ∀ y ∈ l.take (k + 1), _
          intro y hy
          obtain ⟨hk2, ex⟩ := List.getElem?_eq_some_iff.1 HX.out
          rw [List.take_succ_eq_append_getElem hk2, ex] at hy
          rcases List.mem_append.1 hy with h | h
          · exact HA.out y h
          · rw [List.mem_singleton.1 h]; exact H0.out
    · have hltz : ¬ (k : Int) < (n : Int) := by omega
      go_wp2
      go_ret
      refine ⟨_, rfl, HB.out, .inl ⟨rfl, ?_⟩⟩
      have h := HA.out
      rw [List.take_of_length_le (by have := HN.out; omega)] at h
      exact h
theorem keep_all {l : List Pr} (h : ∀ x ∈ l, ¬ x.2 = 0) : keep l = l := List.filter_eq_self.2 fun x hx => by simpa using h x hx
theorem keep_append (a b : List Pr) : keep (a ++ b) = keep a ++ keep b := List.filter_append ..
theorem keep_len (a : List Pr) : (keep a).length ≤ a.length := List.length_filter_le ..
/-- What the row is under way: what is kept, what is of no use, what is still to be looked at. -/
structure DelAt (l : List Pr) (i j n : Nat) (m : List Pr) : Prop where
  ij : i < j
  jn : j ≤ n
  len : l.length = n
  ex : ∃ M, m = keep (l.take j) ++ (M ++ l.drop j) ∧ (keep (l.take j)).length = i ∧ i + M.length = j
theorem DelAt.mlen {l m : List Pr} {i j n : Nat} (h : DelAt l i j n m) : m.length = n := by
  obtain ⟨M, e, h1, h2⟩ := h.ex
  have := h.len
  have := h.jn
  rw [e, List.length_append, List.length_append, List.length_drop]
  omega
theorem take_succ_at {l : List Pr} {j : Nat} {y : Pr} (h : l[j]? = some y) : l.take (j + 1) = l.take j ++ [y] := by
  obtain ⟨hk, e⟩ := List.getElem?_eq_some_iff.1 h
  rw [List.take_succ_eq_append_getElem hk, e]
theorem DelAt.at {l m : List Pr} {i j n : Nat} (h : DelAt l i j n m) {y : Pr} (hy : l[j]? = some y) : m[j]? = some y := by
  obtain ⟨M, e, h1, h2⟩ := h.ex
  rw [e, ← List.append_assoc, List.getElem?_append_right (by rw [List.length_append]; omega), List.length_append, show j - ((keep (l.take j)).length + M.length) = 0 by omega, drop_at l j y hy]
  rfl
theorem DelAt.skip {l m : List Pr} {i j n : Nat} (h : DelAt l i j n m) {y : Pr} (hy : l[j]? = some y) (h0 : y.2 = 0) : DelAt l i (j + 1) n m := by
  obtain ⟨M, e, h1, h2⟩ := h.ex
  have hk := (List.getElem?_eq_some_iff.1 hy).1
  have ek : keep (l.take (j + 1)) = keep (l.take j) := by rw [take_succ_at hy, keep_append]; simp [keep, h0]
  refine ⟨by have := h.ij; omega, by have := h.len; omega, h.len, M ++ [y], ?_, by rw [ek]; exact h1, by simp; omega⟩
  rw [ek, e, drop_at l j y hy]
  simp
theorem DelAt.put {l m : List Pr} {i j n : Nat} (h : DelAt l i j n m) {y : Pr} (hy : l[j]? = some y) (h0 : ¬ y.2 = 0) : DelAt l (i + 1) (j + 1) n (m.set i y) := by
  obtain ⟨M, e, h1, h2⟩ := h.ex
  have hk := (List.getElem?_eq_some_iff.1 hy).1
  have ek : keep (l.take (j + 1)) = keep (l.take j) ++ [y] := by rw [take_succ_at hy, keep_append]; simp [keep, h0]
  have hij := h.ij
  cases M with
  | nil => simp at h2; omega
  | cons m0 M1 =>
    refine ⟨by omega, by have := h.len; omega, h.len, M1 ++ [y], ?_, by rw [ek]; simp; omega, by simp at h2 ⊢; omega⟩
    rw [ek, e, drop_at l j y hy, List.set_append_right _ _ (by omega), show i - (keep (l.take j)).length = 0 by omega]
    simp
theorem DelAt.start {P S : List Pr} {x : Pr} (h : ∀ y ∈ P, ¬ y.2 = 0) (h0 : x.2 = 0) {n : Nat} (hn : (P ++ x :: S).length = n) : DelAt (P ++ x :: S) P.length (P.length + 1) n (P ++ x :: S) := by
  have e1 : (P ++ x :: S).take (P.length + 1) = P ++ [x] := by rw [List.take_append, List.take_of_length_le (by omega)]; simp
  have e2 : (P ++ x :: S).drop (P.length + 1) = S := by rw [List.drop_append, List.drop_eq_nil_of_le (by omega)]; simp
  have ek : keep (P ++ [x]) = P := by rw [keep_append, keep_all h]; simp [keep, h0]
  refine ⟨by omega, by simp at hn; omega, hn, [x], ?_, ?_, by simp⟩
  · rw [e1, e2, ek]; simp
  · rw [e1, ek]
theorem DelAt.fin {l m : List Pr} {i j n : Nat} (h : DelAt l i j n m) (hj : ¬ j < n) : m.take i = keep l := by
  obtain ⟨M, e, h1, h2⟩ := h.ex
  have := h.len
  rw [e, List.take_append_of_le_length (by omega), ← h1, List.take_length, List.take_of_length_le (by omega)]
end Go.Proofs.YtjanhebckonbaaaDoor
