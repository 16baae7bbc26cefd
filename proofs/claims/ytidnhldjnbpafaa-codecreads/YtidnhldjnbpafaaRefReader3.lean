/- The reference's readers: GetBytes. -/
import Derived.Test.YtidnhldjnbpafaaRefReader2
namespace Go.Proofs.Ytidnhldjnbpafaa
open Go.RowKit
set_option maxRecDepth 100000

theorem bytesR_uint {xs : List Nat} {e m : Int} : bytesR xs e m = if (uintR xs e (mostN m)).2.2 ≠ 0 then ([], xs, (uintR xs e (mostN m)).2.2)
    else if (uintR xs e (mostN m)).2.1.length < (uintR xs e (mostN m)).1 then ([], xs, 20)
    else ((uintR xs e (mostN m)).2.1.take (uintR xs e (mostN m)).1, (uintR xs e (mostN m)).2.1.drop (uintR xs e (mostN m)).1, 0) := by
  unfold bytesR
  by_cases he : e = 0
  · subst he
    rw [if_neg (by simp)]
    by_cases h0 : (front xs (mostN m)).2.2 = 0
    · have hu : uintR xs 0 (mostN m) = ((front xs (mostN m)).1, xs.drop (front xs (mostN m)).2.1, 0) := by rw [uintR, if_neg (by simp), if_neg (by simp [h0])]
      rw [hu, if_neg (by simp [h0])]
      simp only [List.length_drop, List.drop_drop, ne_eq, not_true_eq_false, if_false]
    · have hu : uintR xs 0 (mostN m) = (0, xs, ((front xs (mostN m)).2.2 : Int)) := by rw [uintR, if_neg (by simp), if_pos h0]
      rw [hu, if_pos h0, if_pos (by simpa using h0)]
  · have hu : uintR xs e (mostN m) = (0, xs, e) := by rw [uintR, if_pos he]
    rw [hu, if_pos he, if_pos he]

theorem two_first (w : World) (o o' : Obj) : ((w.alloc o).alloc o').heap[w.heap.size]? = some o := by
  rw [Below.heap_alloc _ _ _ (by simp)]; exact heap_alloc_new w o
theorem two_second (w : World) (o o' : Obj) : ((w.alloc o).alloc o').heap[w.heap.size + 1]? = some o' := by
  have := heap_alloc_new (w.alloc o) o'; simpa using this
theorem agg3 {w : World} {b : Nat} {x y z : Value} {T : TypeId} (h : w.heap[b]? = some (.cells #[x, y, z] T (0, 0))) :
    w.cell? ⟨b, 0, none⟩ = some x ∧ w.cell? ⟨b, 1, none⟩ = some y ∧ w.cell? ⟨b, 2, none⟩ = some z ∧ w.frozen? ⟨b, 0, none⟩ = false ∧ w.frozen? ⟨b, 1, none⟩ = false ∧ w.frozen? ⟨b, 2, none⟩ = false := by
  refine ⟨?_, ?_, ?_, ?_, ?_, ?_⟩ <;> simp [World.cell?, World.frozen?, h]

theorem two_old (w : World) (o o' : Obj) (k : Nat) (h : k < w.heap.size) : ((w.alloc o).alloc o').heap[k]? = w.heap[k]? := by
  rw [Below.heap_alloc _ _ _ (by simp; omega), Below.heap_alloc _ _ _ h]
theorem two_facts {w w1 : World} {x y z x' y' z' : Value} {T T' : TypeId} (h : Below ((w.alloc (.cells #[x, y, z] T)).alloc (.cells #[x', y', z'] T')).heap.size ((w.alloc (.cells #[x, y, z] T)).alloc (.cells #[x', y', z'] T')) w1) :
    w.heap.size + 2 ≤ w1.heap.size ∧ Below w.heap.size w w1 ∧
    (w1.cell? ⟨w.heap.size, 0, none⟩ = some x ∧ w1.cell? ⟨w.heap.size, 1, none⟩ = some y ∧ w1.cell? ⟨w.heap.size, 2, none⟩ = some z ∧ w1.frozen? ⟨w.heap.size, 0, none⟩ = false ∧ w1.frozen? ⟨w.heap.size, 1, none⟩ = false ∧ w1.frozen? ⟨w.heap.size, 2, none⟩ = false) ∧
    (w1.cell? ⟨w.heap.size + 1, 0, none⟩ = some x' ∧ w1.cell? ⟨w.heap.size + 1, 1, none⟩ = some y' ∧ w1.cell? ⟨w.heap.size + 1, 2, none⟩ = some z' ∧ w1.frozen? ⟨w.heap.size + 1, 0, none⟩ = false ∧ w1.frozen? ⟨w.heap.size + 1, 1, none⟩ = false ∧ w1.frozen? ⟨w.heap.size + 1, 2, none⟩ = false) := by
  refine ⟨by have := h.size; simpa using this, ?_, agg3 ((h.block w.heap.size (by simp; omega)).trans (two_first w _ _)), agg3 ((h.block (w.heap.size + 1) (by simp)).trans (two_second w _ _))⟩
  exact (((Below.refl _ w).alloc (Nat.le_refl _) _).alloc (by simp) _).trans (h.mono (by simp; omega))

set_option maxHeartbeats 4000000 in
theorem refGetBytes_any (N : Nat) (v : Value) (xs : List Nat) (n : Nat) (e : Int) (m : Int) (w : World) (hrow : Row N w v xs) (hNw : N ≤ w.heap.size) (hn : n ≤ xs.length) (hx : ∀ x ∈ xs, x < 256) (hl : xs.length ≤ 140737488351232)
    (hm1 : -9223372036854775808 ≤ m) (hm2 : m ≤ 9223372036854775807) :
    Calls Try.prog 19 #[rv v n e, .int .i64 m] w fun x w' => ∃ n' v', x = .returned (.tuple #[rv v n' (bytesR (xs.drop n) e m).2.2, v']) ∧ xs.drop n' = (bytesR (xs.drop n) e m).2.1 ∧ n ≤ n' ∧ n' ≤ xs.length ∧ Bytes w.heap.size w' v' (bytesR (xs.drop n) e m).1 ∧ Below w.heap.size w w' := by
  have HR : Hid (Row N w v xs) := hrow
  have HX : Hid (∀ x ∈ xs, x < 256) := hx
  obtain ⟨ao, cap, rfl, hcap⟩ := hrow.shape
  have hcase : (m < 0 ∧ ((mostN m : Nat) : Int) = 0) ∨ (0 ≤ m ∧ ((mostN m : Nat) : Int) = m) := by unfold mostN; omega
  rw [bytesR_uint]
  clear hrow hx
  have HB : Hid (∀ o o' : Obj, Below w.heap.size w ((w.alloc o).alloc o')) := fun o o' => ((Below.refl _ w).alloc (Nat.le_refl _) o).alloc (by simp) o'
  have HC : Hid (∀ o o' : Obj, Calls Try.prog 17 #[rv (.slice ao xs.length cap) n e, .int .u64 (mostN m : Int)] ((w.alloc o).alloc o') fun x w' => ∃ n', x = .returned (.tuple #[rv (.slice ao xs.length cap) n' (uintR (xs.drop n) e (mostN m)).2.2, .int .u64 ((uintR (xs.drop n) e (mostN m)).1 : Int)]) ∧ xs.drop n' = (uintR (xs.drop n) e (mostN m)).2.1 ∧ n ≤ n' ∧ n' ≤ xs.length ∧ Below ((w.alloc o).alloc o').heap.size ((w.alloc o).alloc o') w') :=
    fun o o' => refGetUint_any N _ xs n e (mostN m) _ (HR.out.below ((HB.out o o').mono hNw)) (by simp; omega) hn HX.out (by omega)
  have hub : (uintR (xs.drop n) e (mostN m)).1 < 18446744073709551616 ∧ ((uintR (xs.drop n) e (mostN m)).2.2 = 0 → 0 < xs.length) ∧ ((uintR (xs.drop n) e (mostN m)).2.2 ≠ 0 → (uintR (xs.drop n) e (mostN m)).2.1 = xs.drop n) := by
    have hf := front_facts (xs.drop n) (mostN m) (fun x h => HX.out x (List.mem_of_mem_drop h))
    unfold uintR
    split
    · rename_i h; exact ⟨by simp, fun h' => absurd h' h, fun _ => rfl⟩
    split
    · rename_i h; exact ⟨by simp, fun h' => absurd h' (by simpa using h), fun _ => rfl⟩
    · rename_i h
      have := hf.1 (by simpa using h)
      rw [List.length_drop] at this
      exact ⟨this.2.2.2.1, fun _ => by omega, fun h' => absurd rfl h'⟩
  obtain ⟨hub, hpos, hfe⟩ := hub
  generalize uintR (xs.drop n) e (mostN m) = u at HC hub hpos hfe
  obtain ⟨a, rs, f⟩ := u
  simp only at HC hub hpos hfe ⊢
  by_cases hf : f = 0
  · subst hf
    clear hfe
    rw [if_neg (by simp)]
    obtain ⟨b, off, rfl⟩ : ∃ b off, ao = some ⟨b, off, none⟩ := by
      obtain ⟨ao', cap', e, _, _, hc⟩ := HR.out
      simp only [Value.slice.injEq] at e
      obtain ⟨rfl, _, rfl⟩ := e
      obtain ⟨b, off, e, _⟩ := hc (hpos rfl)
      exact ⟨b, off, e⟩
    by_cases ha : rs.length < a
    · rw [if_pos ha]
      rcases hcase with ⟨hm0, hmm⟩ | ⟨hm0, hmm⟩
      all_goals
        rw [hmm] at HC
        clear hmm hpos
        go_enter Try.func19, Try.ntmps19
        go_wp2_with fail
        refine (HC.out _ _).mono ?_
        clear HC
        rintro x w1 ⟨n', rfl, hdrop, hnn, hn', hb1⟩
        have hrl : rs.length = xs.length - n' := by rw [← hdrop, List.length_drop]
        obtain ⟨hsz, hb01, ⟨a0, a1, a2, f0, f1, f2⟩, z0, z1, z2, y0, y1, y2⟩ := two_facts hb1
        have hlt1 : w.heap.size < w1.heap.size := by omega
        have hlt2 : w.heap.size + 1 < w1.heap.size := by omega
        have ha' : (xs.length : Int) - (n' : Int) < (a : Int) := by omega
        clear hb1 hdrop ha
        go_wp2_with fail
        (try simp only [Exit.inBlock, Exit.then])
        refine bodyPost_ret (v := .tuple #[rv (.slice (some ⟨b, off, none⟩) xs.length cap) n 20, .slice none 0 0]) (by simp [results, Try.results19, go_sem, hlt2, z0, z1, z2]; try rfl) rfl ?_
        exact ⟨n, _, rfl, rfl, Nat.le_refl _, hn, Bytes.nil _ _, by go_grown⟩
    · rw [if_neg ha]
      rcases hcase with ⟨hm0, hmm⟩ | ⟨hm0, hmm⟩
      all_goals
        rw [hmm] at HC
        clear hmm hpos
        go_enter Try.func19, Try.ntmps19
        go_wp2_with fail
        refine (HC.out _ _).mono ?_
        clear HC
        rintro x w1 ⟨n', rfl, hdrop, hnn, hn', hb1⟩
        have hrl : rs.length = xs.length - n' := by rw [← hdrop, List.length_drop]
        obtain ⟨hsz, hb01, ⟨a0, a1, a2, f0, f1, f2⟩, z0, z1, z2, y0, y1, y2⟩ := two_facts hb1
        have hlt1 : w.heap.size < w1.heap.size := by omega
        have hlt2 : w.heap.size + 1 < w1.heap.size := by omega
        have ha' : (a : Int) ≤ (xs.length : Int) - (n' : Int) := by omega
        have HD : Hid (rs = xs.drop n') := hdrop.symm
        have HB2 : Hid (∀ o o' : Obj, Below w.heap.size w ((w1.alloc o).alloc o')) := fun o o' => (hb01.alloc (by omega) o).alloc (by simp; omega) o'
        have HW : Hid (∀ o o' : Obj, Row N ((w1.alloc o).alloc o') (.slice (if cap = n' then some ⟨b, off, none⟩ else some ⟨b, off + n', none⟩) (n' + a - n') (cap - n')) ((xs.drop n').take a)) := by
          intro o o'
          rw [Nat.add_sub_cancel_left]
          exact row_take (row_drop (HR.out.below ((HB2.out o o').mono hNw)) hn') (by rw [List.length_drop]; omega)
        have HL : Hid (([] : List Nat).length + ((xs.drop n').take a).length ≤ 140737488355328) := by show _ ≤ _; simp; omega
        have HBN : Hid (∀ o, Bytes (w1.heap.size + 1) ((w1.alloc o).alloc (Obj.cells #[] 5)) (.slice (some ⟨w1.heap.size + 1, 0, none⟩) 0 0) []) := fun o => by
          have := bytes_none (w1.heap.size + 1) (w1.alloc o) (by simp)
          simpa using this
        obtain ⟨V, hV⟩ : ∃ V, V = Value.slice (some ⟨b, off, none⟩) xs.length cap := ⟨_, rfl⟩
        clear hdrop ha
        go_wp2_with (at_builtin; refine append_row (by rfl) _ _ rfl (w1.heap.size + 1) N _ _ [] ((xs.drop n').take a) rfl (HBN.out _) rfl (HW.out _ _) HL.out (by simp) ?_)
        all_goals
          try (have hcn : n' = cap := Eq.symm (by assumption); subst hcn)
          intro v2 w2 hown2 hb2 _
          have HO2 : Hid (Bytes (w1.heap.size + 1) w2 v2 ((xs.drop n').take a)) := hown2
          have hs2 : w1.heap.size + 2 ≤ w2.heap.size := by have := hb2.size; simpa using this
          have hb02 : Below w.heap.size w w2 := (HB2.out _ _).trans (hb2.mono (by omega))
          have hq1 := (hb2.block w1.heap.size (by omega)).trans (two_first w1 _ _)
          have hq2 := (hb2.block (w.heap.size + 1) (by omega)).trans ((two_old w1 _ _ _ hlt2).trans ((hb1.block (w.heap.size + 1) (by simp)).trans (two_second w _ _)))
          obtain ⟨s0, s1, s2, g0, g1, g2⟩ := agg3 hq1
          obtain ⟨t0, t1, t2, h0, h1, h2⟩ := agg3 hq2
          have hlt3 : w1.heap.size < w2.heap.size := by omega
          have hlt4 : w.heap.size + 1 < w2.heap.size := by omega
          have hne : w.heap.size + 1 ≠ w1.heap.size := by omega
          clear hown2 hb2 hq1 hq2 hb1 HW HL HBN HB2
          go_wp2_with fail
          (try simp only [Exit.inBlock, Exit.then])
          refine bodyPost_ret (v := .tuple #[rv V (n' + a) 0, v2]) (by rw [hV]; simp [results, Try.results19, go_sem, t0, t1, t2]; try rfl) rfl ?_
          subst hV
          refine ⟨n' + a, v2, rfl, ?_, by omega, by omega, ?_, by go_grown⟩
          · rw [HD.out, List.drop_drop]
          · rw [HD.out]
            exact (((((HO2.out.but ((But.refl w1.heap.size w2).setCell 1 _) (by omega)).but ((But.refl (w.heap.size + 1) _).setCell 0 _) (by omega)).but ((But.refl (w.heap.size + 1) _).setCell 1 _) (by omega)).but ((But.refl (w.heap.size + 1) _).setCell 2 _) (by omega))).mono (by omega)
  · rw [if_pos hf]
    have HFE : Hid (rs = xs.drop n) := hfe hf
    clear hfe hpos
    have hbf : (f == 0) = false := by simpa using hf
    rcases hcase with ⟨hm0, hmm⟩ | ⟨hm0, hmm⟩
    all_goals
      rw [hmm] at HC
      clear hmm
      go_enter Try.func19, Try.ntmps19
      go_wp2_with fail
      refine (HC.out _ _).mono ?_
      clear HC
      rintro x w1 ⟨n', rfl, hdrop, hnn, hn', hb1⟩
      obtain ⟨hsz, hb01, ⟨a0, a1, a2, f0, f1, f2⟩, z0, z1, z2, y0, y1, y2⟩ := two_facts hb1
      have hlt1 : w.heap.size < w1.heap.size := by omega
      have hlt2 : w.heap.size + 1 < w1.heap.size := by omega
      have HD : Hid (xs.drop n' = rs) := hdrop
      clear hb1 hdrop
      go_wp2_with fail
      (try simp only [Exit.inBlock, Exit.then])
      refine bodyPost_ret (v := .tuple #[rv (.slice ao xs.length cap) n' f, .slice none 0 0]) (by simp [results, Try.results19, go_sem, hlt2, z0, z1, z2]; try rfl) rfl ?_
      exact ⟨n', _, rfl, by rw [HD.out, HFE.out], hnn, hn', Bytes.nil _ _, by go_grown⟩
end Go.Proofs.Ytidnhldjnbpafaa
