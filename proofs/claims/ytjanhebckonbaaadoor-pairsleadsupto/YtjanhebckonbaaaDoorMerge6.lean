/- pairs.Merge; the reference's Norm and Merge. -/
import Derived.Test.YtjanhebckonbaaaDoorDel2
import Derived.Test.YtjanhebckonbaaaDoorRefPut6
namespace Go.Proofs.YtjanhebckonbaaaDoor
open Go.RowKit Nums Pm
set_option maxRecDepth 100000

theorem fold_len : ∀ (l a : List Pr), (l.foldl (put lessB) a).length ≤ a.length + l.length
  | [], a => by simp
  | x :: r, a => by
    have h := fold_len r (put lessB a x)
    have h2 : (put lessB a x).length ≤ a.length + 1 := by
      have := (PutAt6.mk (l := a) (p := x) (k := 0) (done := false) (acc := []) (by simp) (by simp))
      clear this
      suffices H : ∀ (a : List Pr) (d : Bool), (putP lessB x d a).length ≤ a.length + (if d then 0 else 1) from H a false
      intro a
      induction a with
      | nil => intro d; cases d <;> simp [putP]
      | cons y a ih =>
        intro d
        rw [putP]
        have h1 := ih true
        have h0 := ih false
        cases d <;> cases lessB y.1 x.1 <;> by_cases e : y.1 = x.1 <;> simp [e] at h1 h0 ⊢ <;> omega
    rw [List.foldl_cons, List.length_cons]
    omega
theorem norm_len (l : List Pr) : (norm lessB l).length ≤ l.length := by have := fold_len l []; simpa [norm] using this
theorem norm_mem {l : List Pr} {x : Pr} (h : x ∈ norm lessB l) : x ∈ l := by
  have e := SUp.find_of_mem lessB_sto (norm_up lessB_sto l) h
  rw [norm_find lessB_sto] at e
  exact find_mem e
theorem Sm.norm {l : List Pr} (h : Sm l) : Sm (Pm.norm lessB l) := fun x hx => h x (norm_mem hx)
theorem Sm.keep {l : List Pr} (h : Sm l) : Sm (Pm.keep l) := fun x hx => h x (List.mem_filter.1 hx).1
theorem Sm.append {l m : List Pr} (h : Sm l) (k : Sm m) : Sm (l ++ m) := fun x hx => by
  rcases List.mem_append.1 hx with a | a
  · exact h x a
  · exact k x a
set_option maxHeartbeats 1000000 in
theorem Merge_any (w : World) (u v : Value) (l m : List Pr) (h1 : PRow w u l) (h2 : PRow w v m) (hl : l.length < 137438953472) (hm : m.length < 137438953472) :
    Calls Tryd.prog 19 #[u, v] w fun e w' => ∃ v', e = .returned v' ∧ POwn w.heap.size w' v' (merge lessB l m) ∧ Below w.heap.size w w' := by
  obtain ⟨ad1, cap1, rfl⟩ := h1.form
  obtain ⟨ad2, cap2, rfl⟩ := h2.form
  have HC : Hid (∀ o, PRow (w.alloc o) (.slice ad1 l.length cap1) l ∧ PRow (w.alloc o) (.slice ad2 m.length cap2) m ∧ Below w.heap.size w (w.alloc o)) := fun o => ⟨h1.below ((Below.refl _ w).alloc (Nat.le_refl _) o), h2.below ((Below.refl _ w).alloc (Nat.le_refl _) o), (Below.refl _ w).alloc (Nat.le_refl _) o⟩
  have HL : Hid ((l ++ m).length < 549755813888) := by show _ < _; simp; omega
  clear h1 h2
  go_enter Tryd.func19, Tryd.ntmps19
  go_wp2_with (go_at_call 27; refine (inOrder_any _ _ _ _ (l ++ m) HL.out (Concat2_any _ _ _ _ _ l m (HC.out _).1 (HC.out _).2.1 (by omega) (by omega) (by simp) (by simp) (by simp))).mono ?_; rintro e w1 ⟨v1, rfl, ho1, hb1⟩)
  have HB1 : Hid (Below w.heap.size w w1) := (HC.out _).2.2.trans (hb1.mono (HC.out _).2.2.size)
  have HO1 : Hid (POwn w.heap.size w1 v1 (norm lessB (l ++ m))) := ho1.mono (HC.out _).2.2.size
  clear ho1 hb1 HC
  go_wp2_with (go_at_call 29; refine (deleteFunc_any w.heap.size w1 v1 _ HO1.out (by have := norm_len (l ++ m); have := HL.out; omega) HB1.out.size).mono ?_; rintro e w2 ⟨v2, rfl, ho2, hb2⟩)
  go_ret
  exact ⟨v2, rfl, ho2, HB1.out.trans hb2⟩
set_option maxHeartbeats 2000000 in
theorem refNorm_any (w : World) (v : Value) (l : List Pr) (h : PRow w v l) (hl : l.length < 274877906944) (hsm : Sm l) :
    Calls Tryd.prog 16 #[v] w fun e w' => ∃ v', e = .returned v' ∧ POwn w.heap.size w' v' (norm lessB l) ∧ Below w.heap.size w w' := by
  obtain ⟨ad, cap, rfl⟩ := h.form
  have HR : Hid (PRow w (.slice ad l.length cap) l) := h
  obtain ⟨n, hn⟩ : ∃ n, l.length = n := ⟨_, rfl⟩
  have HN : Hid (l.length = n) := hn
  have HS : Hid (Sm l) := hsm
  rw [hn] at HR hl
  clear h hsm
  rw [hn]
  clear hn
  go_enter Tryd.func16, Tryd.ntmps16
  go_wp2
  go_loopg [3, 4] n (fun g s3 s4 wr => ∃ (k : Nat), s4 = .int .i64 k ∧ k ≤ n ∧ n - k ≤ g ∧ Hid (POwn w.heap.size wr s3 (norm lessB (l.take k))) ∧ Hid (Below w.heap.size w wr))
  case atStart => exact ⟨0, rfl, Nat.zero_le _, by omega, POwn.nil _ _, Below.refl _ _⟩
  case round =>
    obtain ⟨k, rfl, hk, hg, HO, HB⟩ := hrel
    by_cases hlt : k < n
    · have hltz : (k : Int) < (n : Int) := by omega
      obtain ⟨x, hx⟩ : ∃ x, l[k]? = some x := ⟨l[k]'(by have := HN.out; omega), List.getElem?_eq_getElem _⟩
      obtain ⟨b, off, rfl, hb, hcell⟩ := (HR.out.below HB.out).at (by omega)
      obtain ⟨c0, c1⟩ := hcell k x hx
      have hc := refPut_any wr u3 (norm lessB (l.take k)) x HO.out.row (by have := norm_len (l.take k); have : (l.take k).length ≤ k := List.length_take_le ..; omega) (Sm.norm fun y hy => HS.out y (List.mem_of_mem_take hy)) (HS.out.at hx)
      have HE : Hid (put lessB (norm lessB (l.take k)) x = norm lessB (l.take (k + 1))) := by
        show _ = _
        rw [take_succ_at hx, norm, norm, List.foldl_append]
        rfl
      clear hcell hx
      go_wp2_with (go_at_call 28; refine hc.mono ?_; rintro e w2 ⟨v2, rfl, ho2, hb2⟩)
      go_roundg (n - (k + 1))
      case measure => omega
      case rel =>
        rw [HE.out] at ho2
        exact ⟨k + 1, by go_num, by omega, Nat.le_refl _, ho2.mono HB.out.size, HB.out.trans (hb2.mono HB.out.size)⟩
    · have hltz : ¬ (k : Int) < (n : Int) := by omega
      have HE : Hid (l.take k = l) := List.take_of_length_le (by have := HN.out; omega)
      rw [HE.out] at HO
      go_wp2
      go_ret
      exact ⟨_, rfl, HO.out, HB.out⟩
end Go.Proofs.YtjanhebckonbaaaDoor
