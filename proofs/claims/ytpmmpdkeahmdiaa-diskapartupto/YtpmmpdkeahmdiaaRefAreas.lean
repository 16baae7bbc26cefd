/- The reference of the disk: Areas. -/
import Derived.Test.YtpmmpdkeahmdiaaBegAll
import Derived.Test.YtpmmpdkeahmdiaaAreas2
import Derived.BigQuiet
namespace Go.Proofs.Ytpmmpdkeahmdiaa
open Go.RowKit Go.Lib
set_option maxRecDepth 100000

attribute [local go_sem ↓] exec_alloc_D exec_box_D exec_load_D exec_store_D
attribute [local go_sem] rdV_cells rdC_0 rdC_1 rdC_2 rdC_3 rdC_4 rdC_5
def NumOwn (B : Nat) (w : World) (v : Value) (xs : List Int) : Prop := w.ownsRow B 35 1 v xs.length (xs.map (Value.int .u64))
theorem compact_succ (d : Array Int) (m : Nat) : compactUpTo d (m + 1) = compactUpTo d m ++ (if keeps d m then [d[m]!] else []) := by
  unfold compactUpTo
  rw [List.range_succ, List.filter_append, List.map_append]
  congr 1
  by_cases h : keeps d m = true
  · simp [h]
  · simp [h]
theorem compact_last (d : Array Int) : ∀ m, (compactUpTo d (m + 1)).getLast? = some d[m]!
  | 0 => by rw [compact_succ]; simp [keeps, compactUpTo]
  | m + 1 => by
    have ih := compact_last d m
    rw [compact_succ]
    by_cases h : keeps d (m + 1) = true
    · rw [if_pos h]; simp
    · rw [if_neg h, List.append_nil, ih]
      simp [keeps] at h
      rw [← h]
theorem cell_new (w : World) (v : Value) (t : TypeId) : (w.alloc (.cells #[v] t)).cell? ⟨w.heap.size, 0, none⟩ = some v := by simp
theorem append_num {w : World} {ops : Array Oper} {rest : List Oper} {o : Oper} {a : Act} {Q : Exit → Act → World → Prop} (hgd : o.guard = none) (s x : Operand)
    (ho : o.op = .call { callee := .builtin .append, args := #[s, x], argTypes := #[80, 80] }) (B : Nat) (v : Value) (xs : List Int) (y : Int)
    (hs : a.eval s = v) (hown : NumOwn B w v xs) (g c : Nat) (hx : a.eval x = .slice (some ⟨g, 0, none⟩) 1 c) (h1 : w.cell? ⟨g, 0, none⟩ = some (.int .u64 y)) (hl : xs.length ≤ 1099511627777) (hB : B ≤ w.heap.size)
    (h : ∀ v' w', NumOwn B w' v' (xs ++ [y]) → Below B w w' → wpList Try.prog ops Q rest (a.put o.dst v') w') : wpList Try.prog ops Q (o :: rest) a w := by
  obtain ⟨i0, hi, hz0, hz1, hz2⟩ := info_parts uintT
  refine wpList_append_own w hgd s x 80 ho B 35 i0 _ 1 8 Try.underlying80 hi hz0 hz1 hz2 rfl (by decide) v xs.length _ hs hown ⟨g, 0, none⟩ 1 c [.int .u64 y] hx rfl ?_ ?_ (by unfold maxLen; omega) (by omega) hB ?_
  · intro j u hj
    match j, hj with
    | 0, hj => simp at hj; rw [← hj]; exact h1
    | j + 1, hj => simp at hj
  · intro u hu
    simp at hu
    rw [hu]; rfl
  · intro v' w' h5 h6 _
    refine h v' w' ?_ ((Below.refl B w).grown h6 hB (fun k hk => (World.ownsRow.lt hown k hk).1))
    unfold NumOwn
    rw [List.map_append, List.length_append]
    exact h5
theorem NumOwn.cells {B : Nat} {w : World} {v : Value} {xs : List Int} {m : Nat} (h : NumOwn B w v xs) (hl : xs.length = m + 1) (z : Int) (hz : xs.getLast? = some z) : ∃ g c, v = .slice (some ⟨g, 0, none⟩) (m + 1) c ∧ w.cell? ⟨g, m, none⟩ = some (.int .u64 z) := by
  obtain ⟨h1, ⟨e, h0⟩ | ⟨g, cap, cur, rfl, hb, hh, h3, h4, h5, h6⟩⟩ := h
  · omega
  · refine ⟨g, cap, by rw [hl], ?_⟩
    have e : (xs.map (Value.int .u64))[m]? = some (.int .u64 z) := by
      rw [List.getElem?_map]
      have : xs[m]? = some z := by rw [← hz, List.getLast?_eq_getElem?, hl]; rfl
      rw [this]; rfl
    rw [← h6, Nat.mul_one, List.getElem?_take] at e
    split at e
    · simpa [World.cell?, hh] using e
    · cases e
theorem NumOwn.shape {B : Nat} {w : World} {v : Value} {xs : List Int} (h : NumOwn B w v xs) : ∃ ad cap, v = .slice ad xs.length cap := by
  obtain ⟨hl, ⟨e, h0⟩ | ⟨g, cap, cur, rfl, _⟩⟩ := h
  · exact ⟨none, 0, by rw [e, h0]⟩
  · exact ⟨_, cap, rfl⟩
theorem NumOwn.alloc {B : Nat} {w : World} {v : Value} {xs : List Int} (h : NumOwn B w v xs) (o : Obj) : NumOwn B (w.alloc o) v xs := by
  obtain ⟨hl, hn | ⟨g, cap, cur, rfl, h1, hg, h2⟩⟩ := h
  · exact ⟨hl, .inl hn⟩
  · exact ⟨hl, .inr ⟨g, cap, cur, rfl, h1, (alloc_old w o (Array.getElem?_eq_some_iff.1 hg).1).trans hg, h2⟩⟩
theorem NumOwn.drewN {B : Nat} {w : World} {v : Value} {xs : List Int} (h : NumOwn B w v xs) (n : Nat) : NumOwn B (w.drewN n) v xs := h
def AX (X : List RX) : Array Int := (X.map (·.s.area)).toArray
structure AreaR (w w1 : World) (X : List RX) (v3 v4 : Value) (wr : World) (i : Nat) : Prop where
  e4 : v4 = .int .i64 i
  hi : i ≤ X.length
  own : NumOwn (w.heap.size + 1) wr v3 (compactUpTo (AX X) i)
  below : Below (w.heap.size + 1) w1 wr
theorem AX_get {X : List RX} {i : Nat} {x : RX} (hx : X[i]? = some x) : (AX X)[i]! = x.s.area := by
  simp [AX, hx]
set_option maxHeartbeats 1000000 in
theorem refAreas_any (P : Nat → Prop) (N : Nat) (d : DS) (v : Value) (w : World) (h : RefIs P w v d) (hd : DsOk N d) (hN : N < 1099511627776) :
    Calls Try.prog 41 #[v] w fun e w' => ∃ v', e = .returned v' ∧ NumRow w' v' (areasS d.secs) ∧ Below w.heap.size w w' := by
  obtain ⟨l, X, rfl, hS, hX⟩ := h
  obtain ⟨hl1, hl2, hl3⟩ := ref_lens hd hN hX
  obtain ⟨ad, cap, rfl, _⟩ := id hS
  have t1 := DskAt.new w (rdOf d) (.slice ad X.length cap)
  obtain ⟨w1, hw1⟩ : ∃ w1, w.alloc (.cells (rdC (rdOf d) (.slice ad X.length cap)) 27) = w1 := ⟨_, rfl⟩
  rw [hw1] at t1
  have T1 : Hid (DskAt w1 w.heap.size (rdOf d) (.slice ad X.length cap)) := t1
  have B1 : Hid (Below w.heap.size w w1) := hw1 ▸ (Below.refl _ w).alloc (Nat.le_refl _) _
  have hs1 : w1.heap.size = w.heap.size + 1 := by rw [← hw1]; simp
  have HS : Hid (SecRow P w (.slice ad X.length cap) X) := hS
  have HE : Hid (compactUpTo (AX X) X.length = areasS d.secs) := by
    show _ = _
    have e1 : X.map (·.s.area) = d.secs.map (·.area) := by
      have := congrArg (List.map RS.area) hX
      rw [List.map_map, List.map_map] at this
      exact this
    unfold areasS Lib.compact AX
    rw [e1]
    congr 1
    rw [← e1]; simp
  clear t1 hS hd hX hl1
  go_enter Try.func41, Try.ntmps41
  go_wp2_with fail
  try rw [hw1]
  clear hw1
  go_loopw [3, 4] (fun v3 v4 wr => ∃ i, AreaR w w1 X v3 v4 wr i) (fun _ v4 _ => X.length - (intOf v4).toNat)
  case atStart => exact ⟨0, rfl, Nat.zero_le _, World.ownsRow_nil _ _ _ _, Below.refl _ _⟩
  case round =>
    obtain ⟨i, hI⟩ := hrel
    have HI : Hid (AreaR w w1 X _ _ wr i) := hI
    obtain ⟨rfl, hi, hown, hbw⟩ := hI
    have hsr := hbw.size
    have hD5 := T1.out.below (B := w.heap.size + 1) (by omega) hbw
    have B5 : Hid (Below w.heap.size w wr) := B1.out.trans (hbw.mono (by omega))
    obtain ⟨d0, d1, d2, d3, d4, d5, dz⟩ := hD5.cells
    clear hbw hD5 d0 d1 d2 d3 d4
    have n1 : w.heap.size < wr.heap.size := by omega
    by_cases hin : i < X.length
    · obtain ⟨_, _, eX, _, hcs, hok⟩ := id HS.out
      obtain ⟨g, hg0, _, hg, hx4⟩ := hcs (by omega)
      simp only [Value.slice.injEq] at eX
      rw [← eX.1] at hg0
      subst hg0
      obtain ⟨x, hx⟩ : ∃ x, X[i]? = some x := ⟨_, List.getElem?_eq_getElem hin⟩
      obtain ⟨x0, x1, x2, x3⟩ := (hx4 i x hx).below hg B5.out
      have HC : Hid (compactUpTo (AX X) (i + 1) = compactUpTo (AX X) i ++ (if keeps (AX X) i then [x.s.area] else [])) := by
        show _ = _
        rw [compact_succ, AX_get hx]
      have hle : (compactUpTo (AX X) i).length ≤ i := by
        unfold compactUpTo
        rw [List.length_map]
        exact Nat.le_trans (List.length_filter_le _ _) (by simp)
      clear hcs hok hx4 eX x1 x2 x3
      by_cases h0 : i = 0
      · subst h0
        have HK : Hid (keeps (AX X) 0 = true) := by show _ = _; simp [keeps]
        have hc0 : compactUpTo (AX X) 0 = [] := by simp [compactUpTo]
        rw [hc0] at hown HC
        obtain ⟨av, ac, rfl⟩ := hown.shape
        have HO : Hid (NumOwn (w.heap.size + 1) wr (.slice av ([] : List Int).length ac) []) := hown
        clear hown hc0 hx hle
        go_wp2_with fail
        go_quiet (fail)
        go_wp2_with (at_builtin; refine append_num rfl _ _ rfl (w.heap.size + 1) _ [] x.s.area rfl ((HO.out.drewN nq).alloc _) _ _ rfl (cell_new (wr.drewN nq) _ _) (by simp) (by simp; omega) ?_; intro v' w' ho' hb'; obtain ⟨bv2, bc2, rfl⟩ := ho'.shape; have HO2 : Hid (NumOwn (w.heap.size + 1) w' (.slice bv2 ([] ++ [x.s.area]).length bc2) ([] ++ [x.s.area])) := ho'; have HB : Hid (Below (w.heap.size + 1) wr w') := (((below_drewN (Below.refl _ wr) nq).alloc (by simp; omega) _)).trans hb'; clear ho' hb')
        go_roundw
        case rel => exact ⟨1, by go_num, by omega, by rw [HC.out, if_pos HK.out]; simpa using HO2.out, HI.out.below.trans HB.out⟩
        case measure => simp [intOf]; omega
      · obtain ⟨j, hj⟩ : ∃ j, i = j + 1 := ⟨i - 1, by omega⟩
        have hlast := compact_last (AX X) j
        rw [← hj] at hlast
        obtain ⟨x', hx'⟩ : ∃ x, X[j]? = some x := ⟨_, List.getElem?_eq_getElem (by omega)⟩
        rw [AX_get hx'] at hlast
        obtain ⟨xs, hxs⟩ : ∃ xs, compactUpTo (AX X) i = xs := ⟨_, rfl⟩
        rw [hxs] at hown HC hle hlast
        obtain ⟨m, hm⟩ : ∃ m, xs.length = m + 1 := ⟨xs.length - 1, by
          have : xs ≠ [] := fun e => by rw [e] at hlast; cases hlast
          have := List.length_pos_iff.2 this
          omega⟩
        obtain ⟨lg, lc, rfl, hlc⟩ := hown.cells hm x'.s.area hlast
        have HO : Hid (NumOwn (w.heap.size + 1) wr (.slice (some ⟨lg, 0, none⟩) (m + 1) lc) xs) := hown
        have hne : ((m + 1 : Nat) : Int) ≠ 0 := by omega
        have e0 : ((((m + 1 : Nat) : Int)) == 0) = false := by simpa using hne
        have HKK : Hid (keeps (AX X) i = decide (x.s.area ≠ x'.s.area)) := by
          show _ = _
          unfold keeps
          rw [AX_get hx]
          have : i - 1 = j := by omega
          rw [this, AX_get hx']
          simp [h0]
        have HMM : Hid (xs.length = m + 1) := hm
        have hw1 : IntKind.i64.wrap (m : Int) = (m : Int) := by simp [IntKind.wrap, IntKind.bits, IntKind.signed]; omega
        have hw2 : (0 : Int) ≤ (m : Int) := by omega
        have hw3 : (m : Int) < (m : Int) + 1 := by omega
        clear hown hxs hx hx' hlast hm hj h0
        by_cases hk : x'.s.area = x.s.area
        · have e1 : (x'.s.area != x.s.area) = false := by simp [hk]
          have HK : Hid (keeps (AX X) i = false) := by show _ = _; rw [HKK.out]; simp [hk]
          clear hk
          go_wp2_with fail
          go_quiet (fail)
          go_wp2_with fail
          go_roundw
          case rel => exact ⟨i + 1, by go_num, by omega, by rw [HC.out, HK.out]; simp only [Bool.false_eq_true, if_false, List.append_nil]; exact HO.out.drewN nq, HI.out.below.trans (below_drewN (Below.refl _ wr) nq)⟩
          case measure => simp [intOf]; omega
        · have e1 : (x'.s.area != x.s.area) = true := by simpa using hk
          have HK : Hid (keeps (AX X) i = true) := by
            show _ = _
            rw [HKK.out]
            simp
            exact fun e => hk e.symm
          clear hk
          go_wp2_with fail
          go_quiet (fail)
          go_wp2_with (at_builtin; refine append_num rfl _ _ rfl (w.heap.size + 1) _ xs x.s.area rfl ((HO.out.drewN nq).alloc _) _ _ rfl (cell_new (wr.drewN nq) _ _) (by omega) (by simp; omega) ?_; intro v' w' ho' hb'; obtain ⟨bv2, bc2, rfl⟩ := ho'.shape; have HO2 : Hid (NumOwn (w.heap.size + 1) w' (.slice bv2 (xs ++ [x.s.area]).length bc2) (xs ++ [x.s.area])) := ho'; have HB : Hid (Below (w.heap.size + 1) wr w') := (((below_drewN (Below.refl _ wr) nq).alloc (by simp; omega) _)).trans hb'; clear ho' hb')
          go_roundw
          case rel => exact ⟨i + 1, by go_num, by omega, by rw [HC.out, if_pos HK.out]; simpa using HO2.out, HI.out.below.trans HB.out⟩
          case measure => simp [intOf]; omega
    · have hii : i = X.length := by omega
      subst hii
      obtain ⟨av, ac, rfl⟩ := hown.shape
      have HO : Hid (NumOwn (w.heap.size + 1) wr (.slice av (compactUpTo (AX X) X.length).length ac) (compactUpTo (AX X) X.length)) := hown
      clear hown
      go_wp2_with fail
      go_ret
      refine ⟨_, rfl, ?_, B5.out⟩
      rw [← HE.out]
      exact NumRow.of_own HO.out
end Go.Proofs.Ytpmmpdkeahmdiaa
