/- slices.Clone at rows; a table's Rows and Clone. -/
import Derived.Test.YtoiikmfdoadkpaaSeCall
namespace Go.Proofs.Ytoiikmfdoadkpaa
open Go.RowKit Go.Lib Go.Shelf
set_option maxRecDepth 100000
namespace Se
theorem flat_at4 : ∀ (xss : List (List Value)) (k : Nat), (∀ x ∈ xss, x.length = k) → 0 < k → ∀ (j : Nat) (u : Value), xss.flatten[j]? = some u → ∃ i c x, j = i * k + c ∧ xss[i]? = some x ∧ x[c]? = some u
  | [], _, _, _, j, u, h => by simp at h
  | y :: r, k, hk, h0, j, u, h => by
    have hy := hk y (by simp)
    rw [List.flatten_cons] at h
    by_cases hj : j < y.length
    · rw [List.getElem?_append_left hj] at h
      exact ⟨0, j, y, by omega, rfl, h⟩
    · rw [List.getElem?_append_right (by omega)] at h
      obtain ⟨i, c, x, e, h1, h2⟩ := flat_at4 r k (fun x hx => hk x (by simp [hx])) h0 _ u h
      exact ⟨i + 1, c, x, by rw [Nat.add_mul]; omega, by simpa using h1, h2⟩
theorem flat_lenk : ∀ (xss : List (List Value)) (k : Nat), (∀ x ∈ xss, x.length = k) → xss.flatten.length = xss.length * k
  | [], _, _ => by simp
  | y :: r, k, hk => by rw [List.flatten_cons, List.length_append, flat_lenk r k (fun x hx => hk x (by simp [hx])), hk y (by simp), List.length_cons, Nat.add_mul]; omega
theorem rows_cells (l : List Rw) : ∀ x ∈ l.map cellsR, Cells 4 x := fun x hx => by
  obtain ⟨a, _, rfl⟩ := List.mem_map.1 hx
  exact cellsR_ok a
/-- slices.Clone at rows. -/
theorem cloneR_any (E : Nat) (w : World) (l : List Rw) (v : Value) (h : GRow E 4 w v (l.map cellsR)) (hm : l.length ≤ 4398046511104) :
    Calls Try.prog 24 #[v] w fun e w' => ∃ v', e = .returned v' ∧ GOwn 43 4 w.heap.size w' v' (l.map cellsR) ∧ Below w.heap.size w w' := by
  by_cases h0 : l = []
  · subst h0
    obtain ⟨ad, cap, rfl⟩ := h.shape
    have HA : Hid (GOwn 43 4 w.heap.size w (.slice none 0 0) ([].map cellsR)) := GOwn.nil _ _ _ _
    have HB : Hid (GOwn 43 4 w.heap.size (w.alloc (.cells #[] 43)) (.slice (some ⟨w.heap.size, 0, none⟩) 0 0) ([].map cellsR) ∧ Below w.heap.size w (w.alloc (.cells #[] 43))) :=
      ⟨⟨by simp, by simpa using World.ownsRow_made w #[] 0 (Nat.le_refl _) (Nat.zero_le _) (by simp)⟩, (Below.refl _ w).alloc (Nat.le_refl _) _⟩
    clear h
    have heq : ∀ W, (binOp .eql 39 (.slice ad 0 cap) (.slice none 0 0)).run Try.prog W = .ok (.bool ad.isNone) W := fun W => Lib.run_eql_slice_nil W _ _ ad 0 cap 0 0 rtyR.und
    cases ad with
    | none =>
      go_enter Try.func24, Try.ntmps24
      simp only [Option.isNone_none] at heq
      go_wp2
      go_ret
      exact ⟨_, rfl, HA.out, Below.refl _ _⟩
    | some p =>
      go_enter Try.func24, Try.ntmps24
      simp only [Option.isNone_some] at heq
      go_wp2
      go_ret
      exact ⟨_, rfl, HB.out⟩
  · obtain ⟨z, hz, hzs⟩ := rtyR.inf
    obtain ⟨i, hi, hz0, hz1, hz2⟩ := info_parts hz
    have hsz : ∀ w, (Go.sizeOf 43).run Try.prog w = .ok 4 w := fun w => by simp [sizeOf, typeInfo, hi, hz1, Result.andThen]
    have hcl := rows_cells l
    have hl4 : ∀ x ∈ l.map cellsR, x.length = 4 := fun x hx => (hcl x hx).1
    have hpos := List.length_pos_iff.2 h0
    obtain ⟨ad, cap, rfl, hc⟩ := h.ex
    obtain ⟨g, off, rfl, hg, hx⟩ := hc (by rw [List.length_map]; exact hpos)
    have hcell : ∀ (j : Nat) u, (l.map cellsR).flatten[j]? = some u → w.cell? ⟨g, off + j, none⟩ = some u := fun j u hj => by
      obtain ⟨i, c, x, rfl, h1, h2⟩ := flat_at4 (l.map cellsR) 4 hl4 (by decide) j u hj
      have := hx i c x u h1 h2
      rwa [Nat.add_assoc] at this
    have hone : ∀ u ∈ (l.map cellsR).flatten, u.oneCell' = true := fun u hu => by
      obtain ⟨x, hx, hux⟩ := List.mem_flatten.1 hu
      exact (hcl x hx).2 u hux
    have hlen : (l.map cellsR).length = l.length := List.length_map _
    have hcall : Calls Try.prog 24 #[.slice (some ⟨g, off, none⟩) (l.map cellsR).length cap] w fun e w' => ∃ v', e = .returned v' ∧ w'.ownsRow w.heap.size 43 4 v' (l.map cellsR).length (l.map cellsR).flatten ∧ v' ≠ .slice none 0 0 ∧ Below w.heap.size w w' :=
      AnyE.slices_Clone cloneR i z 4 32 hi hz0 hz1 hz2 hzs (by decide) hsz g off (l.map cellsR).length cap (l.map cellsR).flatten w (flat_lenk _ 4 hl4) (by unfold maxLen; omega) (by omega) hcell hone
    refine hcall.mono ?_
    rintro e w' ⟨v', rfl, ho, hne, hb⟩
    exact ⟨v', rfl, ⟨hcl, ho⟩, hb⟩
theorem Rows_any (B : Nat) (w : World) (p : Nat) (v : Value) (l : List Rw) (K : TAt B w p v l) (hl : l.length ≤ 4398046511104) : Calls Try.prog 14 #[.pointer (some ⟨p, 0, none⟩)] w fun e w' => ∃ v', e = .returned v' ∧ GOwn 43 4 w.heap.size w' v' (l.map cellsR) ∧ Below w.heap.size w w' := by
  have HC := cloneR_any w.heap.size w l v K.row.reads hl
  obtain ⟨ad, cap, rfl, _⟩ := K.form
  have c0 := K.c0
  generalize l.length = n at *
  clear K
  go_enter Try.func14, Try.ntmps14
  go_wp2_with (go_at_call 24; refine HC.mono ?_; rintro e w' ⟨v', rfl, h1, h2⟩)
  go_ret
  exact ⟨_, rfl, h1, h2⟩
theorem Clone_any (B : Nat) (w : World) (p : Nat) (v : Value) (l : List Rw) (K : TAt B w p v l) (hl : l.length ≤ 4398046511104) : Calls Try.prog 19 #[.pointer (some ⟨p, 0, none⟩)] w fun e w' => ∃ q v', e = .returned (.pointer (some ⟨q, 0, none⟩)) ∧ TAt w.heap.size w' q v' l ∧ Below w.heap.size w w' := by
  have HC := Rows_any B w p v l K hl
  have HEND : Hid (∀ v' w', GOwn 43 4 w.heap.size w' v' (l.map cellsR) → Below w.heap.size w w' → TAt w.heap.size (w'.alloc (.cells #[v'] 56)) w'.heap.size v' l ∧ Below w.heap.size w (w'.alloc (.cells #[v'] 56))) := fun v' w' h1 h2 => by
    have hb : Below w'.heap.size w' (w'.alloc (.cells #[v'] 56)) := (Below.refl _ w').alloc (Nat.le_refl _) _
    exact ⟨tab_new (alloc_newM _ _) h2.size (h1.below hb) (fun e => by have := h1.lt e; omega), h2.trans (hb.mono h2.size)⟩
  obtain ⟨ad, cap, rfl, _⟩ := K.form
  clear K
  go_enter Try.func19, Try.ntmps19
  go_wp2_with (go_at_call 14; refine HC.mono ?_; rintro e w' ⟨v', rfl, h1, h2⟩; obtain ⟨a7, n7, c7, hv7⟩ : ∃ a n c, v' = Value.slice a n c := (by obtain ⟨a, c, e, _⟩ := h1.shape; exact ⟨_, _, _, e⟩); subst hv7; have HZ := HEND.out _ _ h1 h2; have HZZ : Hid (TAt w.heap.size (w'.alloc (.cells #[.slice a7 n7 c7] 56)) w'.heap.size (.slice a7 n7 c7) l ∧ Below w.heap.size w (w'.alloc (.cells #[.slice a7 n7 c7] 56))) := HZ; clear h1 h2 HZ)
  go_ret
  exact ⟨_, _, rfl, HZZ.out⟩
end Se
end Go.Proofs.Ytoiikmfdoadkpaa
