/- pairs.Diff. -/
import Derived.Test.YtjanhebckonbaaaDoorGone
import Derived.Deep.Cut
namespace Go.Proofs.YtjanhebckonbaaaDoor
open Go.RowKit Go.Sort Nums Pm
set_option maxRecDepth 100000

theorem dif_lt {x y : Pr} {a b : List Pr} (h : lessB x.1 y.1 = true) : dif lessB (x :: a) (y :: b) = (x.1, 0) :: dif lessB a (y :: b) := by rw [dif_cons, if_pos h]
theorem dif_gt {x y : Pr} {a b : List Pr} (h1 : lessB x.1 y.1 = false) (h2 : lessB y.1 x.1 = true) : dif lessB (x :: a) (y :: b) = y :: dif lessB (x :: a) b := by rw [dif_cons, if_neg (by rw [h1]; decide), if_pos h2]
theorem dif_eq {x y : Pr} {a b : List Pr} (h1 : lessB x.1 y.1 = false) (h2 : lessB y.1 x.1 = false) (h : x.2 = y.2) : dif lessB (x :: a) (y :: b) = dif lessB a b := by rw [dif_cons, if_neg (by rw [h1]; decide), if_neg (by rw [h2]; decide), if_pos h]
theorem dif_ne {x y : Pr} {a b : List Pr} (h1 : lessB x.1 y.1 = false) (h2 : lessB y.1 x.1 = false) (h : ¬ x.2 = y.2) : dif lessB (x :: a) (y :: b) = y :: dif lessB a b := by rw [dif_cons, if_neg (by rw [h1]; decide), if_neg (by rw [h2]; decide), if_neg h]
/-- The front of a row, and what is behind it. -/
theorem PRow.front {w : World} {ad : Option Addr} {n cap : Nat} {p : Pr} {x : List Pr} (h : PRow w (.slice ad n cap) (p :: x)) : ∃ g off, ad = some ⟨g, off, none⟩ ∧ n = x.length + 1 ∧ g < w.heap.size ∧ TwoAt w g off p ∧ ∀ c, PRow w (.slice (some ⟨g, off + 2, none⟩) x.length c) x := by
  obtain ⟨ad', cap', e, hc⟩ := h
  simp only [Value.slice.injEq] at e
  obtain ⟨rfl, h2, rfl⟩ := e
  obtain ⟨g, off, rfl, hg, hx⟩ := hc (by simp)
  refine ⟨g, off, rfl, by simpa using h2, hg, by simpa using hx 0 p rfl, fun c => ⟨_, c, rfl, fun _ => ⟨g, off + 2, rfl, hg, fun i y hi => ?_⟩⟩⟩
  have := hx (i + 1) y (by simpa using hi)
  rwa [show off + (i + 1) * 2 = off + 2 + i * 2 by omega] at this
theorem PRow.zero (w : World) (ad : Option Addr) (c : Nat) : PRow w (.slice ad 0 c) [] := ⟨ad, c, rfl, fun h => by simp at h⟩
/-- Diff under way. -/
structure DifAt (w3 : World) (D : List Pr) (N : Nat) (ad6 ad7 : Option Addr) (n6 n7 cap6 cap7 : Nat) (s5 : Value) (wr : World) (x y acc : List Pr) : Prop where
  r6 : PRow w3 (.slice ad6 n6 cap6) x
  r7 : PRow w3 (.slice ad7 n7 cap7) y
  l6 : x.length = n6
  l7 : y.length = n7
  c6 : n6 ≤ cap6
  c7 : n7 ≤ cap7
  own : POwn w3.heap.size wr s5 acc
  bel : Below w3.heap.size w3 wr
  eq : acc ++ dif lessB x y = D
  len : acc.length + (n6 + n7) ≤ N
theorem tailRow {w : World} {g o n c : Nat} {x : List Pr} {ad : Option Addr} (h : ∀ c, PRow w (.slice (some ⟨g, o, none⟩) x.length c) x) (hn : n = x.length) (had : x.length = 0 ∨ ad = some ⟨g, o, none⟩) : PRow w (.slice ad n c) x := by
  subst hn
  rcases had with h0 | rfl
  · have : x = [] := List.eq_nil_of_length_eq_zero h0
    subst this
    exact PRow.zero w ad c
  · exact h c
theorem growBelow (W : World) (n : Nat) (os : Array Obj) : Below W.heap.size W (grow (W.drewN n) os) :=
  ⟨rfl, rfl, rfl, by rw [size_grow]; exact Nat.le_add_right _ _, fun k hk => by
    show ((W.drewN n).heap ++ os)[k]? = _
    rw [Array.getElem?_append_left (by exact hk)]
    rfl⟩
def accG (acc x : List Pr) (k : Nat) : List Pr := acc ++ (x.take k).map (fun z => (z.1, (0 : Int)))
theorem accG_zero (acc x : List Pr) : accG acc x 0 = acc := by simp [accG]
theorem accG_succ {acc x : List Pr} {k : Nat} {z : Pr} (hz : x[k]? = some z) : accG acc x (k + 1) = accG acc x k ++ [(z.1, 0)] := by
  rw [accG, accG, take_succ_at hz, List.map_append, List.append_assoc]; rfl
theorem accG_end {acc x : List Pr} {k : Nat} (h : x.length ≤ k) : accG acc x k = acc ++ x.map (fun z => (z.1, (0 : Int))) := by rw [accG, List.take_of_length_le h]
theorem accG_len (acc x : List Pr) (k : Nat) : (accG acc x k).length ≤ acc.length + k := by rw [accG, List.length_append, List.length_map]; have := List.length_take_le k x; omega
theorem accG_len2 (acc x : List Pr) (k : Nat) : (accG acc x k).length ≤ acc.length + x.length := by rw [accG, List.length_append, List.length_map]; have := List.length_take_le' k x; omega
set_option maxHeartbeats 4000000 in
theorem Diff_any (w : World) (u v : Value) (l m : List Pr) (h1 : PRow w u l) (h2 : PRow w v m) (hl : l.length < 137438953472) (hm : m.length < 137438953472) :
    Calls Tryd.prog 21 #[u, v] w fun e w' => ∃ v', e = .returned v' ∧ POwn w.heap.size w' v' (diff lessB l m) ∧ Below w.heap.size w w' := by
  obtain ⟨ad1, cap1, rfl⟩ := h1.form
  obtain ⟨ad2, cap2, rfl⟩ := h2.form
  have HC : Hid (∀ W, Below w.heap.size w W → ∀ o, PRow (W.alloc o) (.slice ad1 l.length cap1) l ∧ PRow (W.alloc o) (.slice ad2 m.length cap2) m ∧ Below w.heap.size w (W.alloc o)) := fun W hW o => ⟨h1.below (hW.alloc hW.size o), h2.below (hW.alloc hW.size o), hW.alloc hW.size o⟩
  have HW0 : Hid (Below w.heap.size w w) := Below.refl _ _
  have mixed := mixedP
  clear h1 h2
  go_enter Tryd.func21, Tryd.ntmps21
  go_wp2_with (go_at_call 27; refine (inOrder_any _ _ _ _ l (by omega) (Concat1_any _ _ _ _ l (HC.out _ HW0.out _).1 (by omega) (by simp) (by simp))).mono ?_; rintro e w1 ⟨v1, rfl, ho1, hb1⟩)
  have HB1 : Hid (Below w.heap.size w w1) := (HC.out _ HW0.out _).2.2.trans (hb1.mono (HC.out _ HW0.out _).2.2.size)
  have HO1 : Hid (POwn w.heap.size w1 v1 (norm lessB l)) := ho1.mono (HC.out _ HW0.out _).2.2.size
  clear ho1 hb1
  go_wp2_with (go_at_call 27; refine (inOrder_any _ _ _ _ m (by omega) (Concat1_any _ _ _ _ m (HC.out _ HB1.out _).2.1 (by omega) (by simp) (by simp))).mono ?_; rintro e w3 ⟨v3, rfl, ho3, hb3⟩)
  have HBA : Hid (Below w1.heap.size w1 w3) := ((Below.refl _ w1).alloc (Nat.le_refl _) _).trans (hb3.mono (by simp))
  have HB3 : Hid (Below w.heap.size w w3) := HB1.out.trans (HBA.out.mono HB1.out.size)
  obtain ⟨X, hX⟩ : ∃ X, X = norm lessB l := ⟨_, rfl⟩
  obtain ⟨Y, hY⟩ : ∃ Y, Y = norm lessB m := ⟨_, rfl⟩
  have HXL : Hid (X.length < 137438953472 ∧ Y.length < 137438953472) := by have := norm_len l; have := norm_len m; rw [hX, hY]; show _ ∧ _; omega
  have HD : Hid (diff lessB l m = dif lessB X Y) := by show _ = _; rw [hX, hY]; rfl
  have HO1' : POwn w.heap.size w3 v1 X := by rw [hX]; exact HO1.out.below HBA.out
  have HO3' := ho3.row
  rw [← hY] at HO3'
  rw [← hY] at ho3
  obtain ⟨a6, cap6, e6⟩ := HO1'.shape
  obtain ⟨a7, cap7, e7⟩ := ho3.shape
  subst e6
  subst e7
  have HCAP : Hid (X.length ≤ cap6 ∧ Y.length ≤ cap7) := by
    refine ⟨?_, ?_⟩
    · obtain ⟨_, ⟨e, h0⟩ | ⟨g, c, cur, e, _, _, h3, _⟩⟩ := HO1'
      · omega
      · simp only [Value.slice.injEq] at e; omega
    · obtain ⟨_, ⟨e, h0⟩ | ⟨g, c, cur, e, _, _, h3, _⟩⟩ := ho3
      · omega
      · simp only [Value.slice.injEq] at e; omega
  obtain ⟨n6, hn6⟩ : ∃ n, X.length = n := ⟨_, rfl⟩
  obtain ⟨n7, hn7⟩ : ∃ n, Y.length = n := ⟨_, rfl⟩
  obtain ⟨D, hDD⟩ : ∃ D, dif lessB X Y = D := ⟨_, rfl⟩
  have HST : Hid (DifAt w3 D (n6 + n7) a6 a7 n6 n7 cap6 cap7 (.slice none 0 0) w3 X Y []) := by
    have h6 := HO1'.row
    have hc := HCAP.out
    rw [hn6] at h6 hc
    rw [hn7] at HO3' hc
    exact ⟨h6, HO3', hn6, hn7, hc.1, hc.2, POwn.nil _ _, Below.refl _ _, hDD, by simp⟩
  have hN : n6 + n7 < 274877906944 := by have := HXL.out; omega
  rw [hn6, hn7]
  rw [hDD] at HD
  have HFIN : Hid (∀ W v', POwn w3.heap.size W v' D → Below w3.heap.size w3 W → POwn w.heap.size W v' (diff lessB l m) ∧ Below w.heap.size w W) := fun W v' h1 h2 => ⟨by rw [HD.out]; exact h1.mono HB3.out.size, HB3.out.trans (h2.mono HB3.out.size)⟩
  obtain ⟨N, hNe⟩ : ∃ N, N = n6 + n7 := ⟨_, rfl⟩
  rw [← hNe] at HST hN
  have hN6 : n6 + n7 ≤ N := by omega
  clear HO1' HO3' ho3 hb3 HBA HB1 HO1 HB3 hX hY HXL HCAP hn6 hn7 hDD HC HW0 HD hNe
  go_wp2
  go_loopg [5, 6, 7, 8] N (fun g s5 s6 s7 _ wr => ∃ (x y acc : List Pr) (a6 a7 : Option Addr) (n6 n7 cap6 cap7 : Nat), s6 = .slice a6 n6 cap6 ∧ s7 = .slice a7 n7 cap7 ∧ n6 + n7 ≤ g ∧ n6 ≤ N ∧ n7 ≤ N ∧ Hid (DifAt w3 D N a6 a7 n6 n7 cap6 cap7 s5 wr x y acc))
  case atStart => exact ⟨X, Y, [], a6, a7, n6, n7, cap6, cap7, rfl, rfl, hN6, by omega, by omega, HST⟩
  case round =>
    clear HST hN6
    obtain ⟨x, y, acc, a6, a7, n6, n7, cap6, cap7, rfl, rfl, hg, hn6, hn7, H⟩ := hrel
    by_cases h6 : 0 < n6
    · have h6z : (0 : Int) < (n6 : Int) := by omega
      by_cases h7 : 0 < n7
      · have h7z : (0 : Int) < (n7 : Int) := by omega
        obtain ⟨p, x', rfl⟩ : ∃ p x', x = p :: x' := by
          cases x with
          | nil => have := H.out.l6; simp at this; omega
          | cons p x' => exact ⟨p, x', rfl⟩
        obtain ⟨q, y', rfl⟩ : ∃ q y', y = q :: y' := by
          cases y with
          | nil => have := H.out.l7; simp at this; omega
          | cons q y' => exact ⟨q, y', rfl⟩
        obtain ⟨g6, o6, rfl, e6, hg6, t6, tl6⟩ := H.out.r6.front
        obtain ⟨g7, o7, rfl, e7, hg7, t7, tl7⟩ := H.out.r7.front
        have HT : Hid (∀ W, Below w3.heap.size w3 W → TwoAt W g6 o6 p ∧ TwoAt W g7 o7 q) := fun W hW => ⟨t6.below hg6 hW, t7.below hg7 hW⟩
        have hgr : ∀ n os, Below w3.heap.size w3 (grow (wr.drewN n) os) := fun n os => H.out.bel.trans ((growBelow wr n os).mono H.out.bel.size)
        have HGR : Hid _ := hgr
        have k60 := fun n os => (HT.out _ (hgr n os)).1.c0
        have k61 := fun n os => (HT.out _ (hgr n os)).1.c1
        have k70 := fun n os => (HT.out _ (hgr n os)).2.c0
        have k71 := fun n os => (HT.out _ (hgr n os)).2.c1
        have hcm := fun W => byWord_any p q W
        have h60 : (0 : Int) < (n6 : Int) := h6z
        have HTL : Hid ((∀ c, PRow w3 (.slice (some ⟨g6, o6 + 2, none⟩) x'.length c) x') ∧ (∀ c, PRow w3 (.slice (some ⟨g7, o7 + 2, none⟩) y'.length c) y')) := ⟨tl6, tl7⟩
        have HE67 : Hid (n6 = x'.length + 1 ∧ n7 = y'.length + 1) := ⟨e6, e7⟩
        clear t6 t7 tl6 tl7 e6 e7 hgr
        have HLEN : Hid (acc.length ≤ N) := by have := H.out.len; show _ ≤ _; omega
        have hc6 : n6 ≤ cap6 := H.out.c6
        have hc7 : n7 ≤ cap7 := H.out.c7
        have hs6 : (1 : Int) ≤ (n6 : Int) := by omega
        have hs7 : (1 : Int) ≤ (n7 : Int) := by omega
        cases hpq : lessB p.1 q.1
        · cases hqp : lessB q.1 p.1
          · have hcf : cfP p q = 0 := by unfold cfP; rw [hpq, hqp]; rfl
            rw [hcf] at hcm
            by_cases hwt : p.2 = q.2
            · have hwb : (p.2 == q.2) = true := beq_iff_eq.2 hwt
              have HEQ : Hid (acc ++ dif lessB x' y' = D) := by show _ = _; rw [← H.out.eq, dif_eq hpq hqp hwt]
              clear hcf hpq hqp hwt
              go_upto_region 4 with fail
              go_quiet_grown (first | (go_at_call 31; refine Calls.grown_of (hcm _)))
              obtain ⟨wz, hwz⟩ : ∃ wz, wz = grow (wr.drewN nq) osq := ⟨_, rfl⟩
              rw [← hwz]
              have HBz : Hid (Below w3.heap.size w3 wz) := by show Below _ _ _; rw [hwz]; exact HGR.out nq osq
              have HOz : Hid (POwn w3.heap.size wz u5 acc) := by show POwn _ _ _ _; rw [hwz]; exact H.out.own.below (growBelow wr nq osq)
              obtain ⟨⟨z0, z1⟩, ⟨y0, y1⟩⟩ := HT.out wz HBz.out
              clear hwz k60 k61 k70 k71 hcm
              go_upto_region 5 with fail
              go_quiet (fail)
              have HOy : Hid (POwn w3.heap.size (wz.drewN nq) u5 acc) := HOz.out.below (belowN (Below.refl _ wz) nq)
              have HBy : Hid (Below w3.heap.size w3 (wz.drewN nq)) := belowN HBz.out nq
              generalize wz.drewN nq = w6 at HOy HBy ⊢
              clear z0 z1 y0 y1
              go_upto_region 7 with fail
              go_quiet (fail)
              all_goals go_wp2_with fail
              all_goals
                go_roundg (n6 - 1 + (n7 - 1))
                case measure => omega
                case rel =>
                  have h1 := HE67.out
                  have h2 := H.out.len
                  exact ⟨x', y', acc, _, _, n6 - 1, n7 - 1, _, _, rfl, rfl, Nat.le_refl _, by omega, by omega, (show Hid _ from ⟨tailRow HTL.out.1 (by omega) (by first | exact .inr rfl | exact .inl (by omega)), tailRow HTL.out.2 (by omega) (by first | exact .inr rfl | exact .inl (by omega)), by omega, by omega, by omega, by omega, HOy.out.below (belowN (Below.refl _ _) _), belowN HBy.out _, HEQ.out, by omega⟩)⟩
            · have hwb : (p.2 == q.2) = false := beq_eq_false_iff_ne.2 hwt
              have HEQ : Hid (acc ++ [q] ++ dif lessB x' y' = D) := by show _ = _; rw [← H.out.eq, dif_ne hpq hqp hwt]; simp
              clear hcf hpq hqp hwt
              go_upto_region 4 with fail
              go_quiet_grown (first | (go_at_call 31; refine Calls.grown_of (hcm _)))
              obtain ⟨wz, hwz⟩ : ∃ wz, wz = grow (wr.drewN nq) osq := ⟨_, rfl⟩
              rw [← hwz]
              have HBz : Hid (Below w3.heap.size w3 wz) := by show Below _ _ _; rw [hwz]; exact HGR.out nq osq
              have HOz : Hid (POwn w3.heap.size wz u5 acc) := by show POwn _ _ _ _; rw [hwz]; exact H.out.own.below (growBelow wr nq osq)
              obtain ⟨⟨z0, z1⟩, ⟨y0, y1⟩⟩ := HT.out wz HBz.out
              clear hwz k60 k61 k70 k71 hcm
              go_upto_region 5 with fail
              go_quiet (fail)
              have HOy : Hid (POwn w3.heap.size (wz.drewN nq) u5 acc) := HOz.out.below (belowN (Below.refl _ wz) nq)
              have HBy : Hid (Below w3.heap.size w3 (wz.drewN nq)) := belowN HBz.out nq
              have hsz : (wz.drewN nq).heap.size = wz.heap.size := rfl
              go_wp2_with (at_builtin; refine append_x (by rfl) _ _ q _ rfl w3.heap.size _ _ _ acc rfl HOy.out rfl hsz.symm (by have := HLEN.out; omega) HBy.out.size ?_)
              intro v5 w5 hr5 hb5
              have HO5 : Hid (POwn w3.heap.size w5 v5 (acc ++ [q])) := hr5
              have HB5 : Hid (Below w3.heap.size w3 w5) := HBy.out.trans hb5
              clear hr5 hb5 z0 z1 y0 y1 hsz
              go_upto_region 7 with fail
              go_quiet (fail)
              all_goals go_wp2_with fail
              all_goals
                go_roundg (n6 - 1 + (n7 - 1))
                case measure => omega
                case rel =>
                  have h1 := HE67.out
                  have h2 := H.out.len
                  exact ⟨x', y', acc ++ [q], _, _, n6 - 1, n7 - 1, _, _, rfl, rfl, Nat.le_refl _, by omega, by omega, (show Hid _ from ⟨tailRow HTL.out.1 (by omega) (by first | exact .inr rfl | exact .inl (by omega)), tailRow HTL.out.2 (by omega) (by first | exact .inr rfl | exact .inl (by omega)), by omega, by omega, by omega, by omega, HO5.out.below (belowN (Below.refl _ _) _), belowN HB5.out _, HEQ.out, by simp; omega⟩)⟩
          · have hcf : cfP p q = 1 := by unfold cfP; rw [hpq, hqp]; rfl
            rw [hcf] at hcm
            have HEQ : Hid (acc ++ [q] ++ dif lessB (p :: x') y' = D) := by show _ = _; rw [← H.out.eq, dif_gt hpq hqp]; simp
            clear hcf hpq hqp
            go_upto_region 4 with fail
            go_quiet_grown (first | (go_at_call 31; refine Calls.grown_of (hcm _)))
            obtain ⟨wz, hwz⟩ : ∃ wz, wz = grow (wr.drewN nq) osq := ⟨_, rfl⟩
            rw [← hwz]
            have HBz : Hid (Below w3.heap.size w3 wz) := by show Below _ _ _; rw [hwz]; exact HGR.out nq osq
            have HOz : Hid (POwn w3.heap.size wz u5 acc) := by show POwn _ _ _ _; rw [hwz]; exact H.out.own.below (growBelow wr nq osq)
            obtain ⟨⟨z0, z1⟩, ⟨y0, y1⟩⟩ := HT.out wz HBz.out
            clear hwz k60 k61 k70 k71 hcm
            go_wp2_with (at_builtin; refine append_x (by rfl) _ _ q _ rfl w3.heap.size _ _ _ acc rfl HOz.out rfl rfl (by have := HLEN.out; omega) HBz.out.size ?_)
            intro v5 w5 hr5 hb5
            have HO5 : Hid (POwn w3.heap.size w5 v5 (acc ++ [q])) := hr5
            have HB5 : Hid (Below w3.heap.size w3 w5) := HBz.out.trans hb5
            clear hr5 hb5 z0 z1 y0 y1
            go_wp2_with fail
            all_goals
              go_roundg (n6 + (n7 - 1))
              case measure => omega
              case rel =>
                have h1 := HE67.out
                have h2 := H.out.len
                exact ⟨p :: x', y', acc ++ [q], _, _, n6, n7 - 1, cap6, _, rfl, rfl, Nat.le_refl _, by omega, by omega, (show Hid _ from ⟨H.out.r6, tailRow HTL.out.2 (by omega) (by first | exact .inr rfl | exact .inl (by omega)), H.out.l6, by omega, H.out.c6, by omega, HO5.out, HB5.out, HEQ.out, by simp; omega⟩)⟩
        · have hcf : cfP p q = -1 := by unfold cfP; rw [if_pos hpq]
          rw [hcf] at hcm
          have HEQ : Hid (acc ++ [(p.1, 0)] ++ dif lessB x' (q :: y') = D) := by show _ = _; rw [← H.out.eq, dif_lt hpq]; simp
          clear hcf hpq
          go_upto_region 4 with fail
          go_quiet_grown (first | (go_at_call 31; refine Calls.grown_of (hcm _)))
          obtain ⟨wz, hwz⟩ : ∃ wz, wz = grow (wr.drewN nq) osq := ⟨_, rfl⟩
          rw [← hwz]
          have HBz : Hid (Below w3.heap.size w3 wz) := by show Below _ _ _; rw [hwz]; exact HGR.out nq osq
          have HOz : Hid (POwn w3.heap.size wz u5 acc) := by show POwn _ _ _ _; rw [hwz]; exact H.out.own.below (growBelow wr nq osq)
          obtain ⟨⟨z0, z1⟩, ⟨y0, y1⟩⟩ := HT.out wz HBz.out
          clear hwz k60 k61 k70 k71 hcm
          go_wp2_with (first | (go_at_call 32; refine (gone_any _ _ _).mono ?_; rintro e w4 ⟨rfl, hb4⟩) | (at_builtin; refine append_x (by rfl) _ _ (p.1, 0) _ rfl w3.heap.size _ _ _ acc rfl (HOz.out.below hb4) rfl rfl (by have := HLEN.out; omega) (Nat.le_trans HBz.out.size hb4.size) ?_))
          intro v5 w5 hr5 hb5
          have HO5 : Hid (POwn w3.heap.size w5 v5 (acc ++ [(p.1, 0)])) := hr5
          have HB5 : Hid (Below w3.heap.size w3 w5) := (HBz.out.trans (hb4.mono HBz.out.size)).trans hb5
          clear hr5 hb5 hb4 z0 z1 y0 y1
          go_wp2_with fail
          all_goals
            go_roundg (n6 - 1 + n7)
            case measure => omega
            case rel =>
              have h1 := HE67.out
              have h2 := H.out.len
              exact ⟨x', q :: y', acc ++ [(p.1, 0)], _, _, n6 - 1, n7, _, cap7, rfl, rfl, Nat.le_refl _, by omega, by omega, (show Hid _ from ⟨tailRow HTL.out.1 (by omega) (by first | exact .inr rfl | exact .inl (by omega)), H.out.r7, by omega, H.out.l7, by omega, H.out.c7, HO5.out, HB5.out, HEQ.out, by simp; omega⟩)⟩
      · have h7z : ¬ (0 : Int) < (n7 : Int) := by omega
        have HD2 : Hid (acc ++ x.map (fun z => (z.1, (0 : Int))) ++ y = D) := by
          show _ = _
          have hy : y = [] := List.eq_nil_of_length_eq_zero (by have := H.out.l7; omega)
          rw [← H.out.eq, hy, dif_end]
          simp
        go_wp2
        go_loopg [5, 10, 76] n6 (fun g s5 _ s76 wq => ∃ (k : Nat), s76 = .int .i64 k ∧ k ≤ n6 ∧ n6 - k ≤ g ∧ Hid (POwn w3.heap.size wq s5 (accG acc x k)) ∧ Hid (Below w3.heap.size w3 wq))
        case atStart => exact ⟨0, rfl, Nat.zero_le _, by omega, by show POwn _ _ _ _; rw [accG_zero]; exact H.out.own, H.out.bel⟩
        case round =>
          obtain ⟨k, rfl, hk, hg3, HO, HB⟩ := hrel
          by_cases hlt : k < n6
          · have hltz : (k : Int) < (n6 : Int) := by omega
            obtain ⟨z, hz⟩ : ∃ z, x[k]? = some z := ⟨x[k]'(by have := H.out.l6; omega), List.getElem?_eq_getElem _⟩
            obtain ⟨b, off, rfl, hb, hcell⟩ := (H.out.r6.below HB.out).at (by omega)
            obtain ⟨c0, c1⟩ := hcell k z hz
            have HE : Hid (accG acc x (k + 1) = accG acc x k ++ [(z.1, 0)]) := accG_succ hz
            have HLN : Hid ((accG acc x k).length ≤ N) := by have h1 := H.out.len; have h2 := accG_len acc x k; show _ ≤ _; omega
            have HWO : Hid (∀ o, POwn w3.heap.size (wr.alloc o) u5 (accG acc x k) ∧ Below w3.heap.size w3 (wr.alloc o)) := fun o => ⟨HO.out.below ((Below.refl _ wr).alloc (Nat.le_refl _) o), HB.out.alloc HB.out.size o⟩
            clear hcell hz
            go_wp2_with (first | (go_at_call 32; refine (gone_any _ _ _).mono ?_; rintro e w4 ⟨rfl, hb4⟩) | (at_builtin; refine append_x (by rfl) _ _ (z.1, 0) _ rfl w3.heap.size _ _ _ _ rfl ((HWO.out _).1.below hb4) rfl rfl (by have := HLN.out; omega) (Nat.le_trans (HWO.out _).2.size hb4.size) ?_))
            intro v5 w5 hr5 hb5
            have HO5 : Hid (POwn w3.heap.size w5 v5 (accG acc x (k + 1))) := by show POwn _ _ _ _; rw [HE.out]; exact hr5
            have HB5 : Hid (Below w3.heap.size w3 w5) := ((HWO.out _).2.trans (hb4.mono (HWO.out _).2.size)).trans hb5
            clear hr5 hb5 hb4
            go_wp2_with fail
            go_roundg (n6 - (k + 1))
            case measure => omega
            case rel => exact ⟨k + 1, by go_num, by omega, Nat.le_refl _, HO5, HB5⟩
          · have hltz : ¬ (k : Int) < (n6 : Int) := by omega
            have HE : Hid (accG acc x k ++ y = D) := by show _ = _; rw [accG_end (by have := H.out.l6; omega)]; exact HD2.out
            have HLN : Hid ((accG acc x k).length + y.length ≤ N) := by
              have h1 := H.out.len
              have h2 := H.out.l6
              have h3 := H.out.l7
              have h4 := accG_len2 acc x k
              show _ ≤ _
              omega
            go_wp2_with (at_builtin; refine append_p (by rfl) _ _ rfl w3.heap.size _ _ _ y rfl HO.out rfl (H.out.r7.below HB.out) (by have := HLN.out; omega) HB.out.size ?_)
            intro v5 w5 hr5 hb5 _
            rw [HE.out] at hr5
            obtain ⟨r1, r2⟩ := HFIN.out _ _ hr5 (HB.out.trans hb5)
            clear hr5 hb5
            go_wp2_with fail
            go_ret
            exact ⟨_, rfl, r1, r2⟩
    · have h6z : ¬ (0 : Int) < (n6 : Int) := by omega
      have HD2 : Hid (acc ++ x.map (fun z => (z.1, (0 : Int))) ++ y = D) := by
        show _ = _
        have hx : x = [] := List.eq_nil_of_length_eq_zero (by have := H.out.l6; omega)
        rw [← H.out.eq, hx, dif_nil]
        simp
      go_wp2
      go_loopg [5, 10, 76] n6 (fun g s5 _ s76 wq => ∃ (k : Nat), s76 = .int .i64 k ∧ k ≤ n6 ∧ n6 - k ≤ g ∧ Hid (POwn w3.heap.size wq s5 (accG acc x k)) ∧ Hid (Below w3.heap.size w3 wq))
      case atStart => exact ⟨0, rfl, Nat.zero_le _, by omega, by show POwn _ _ _ _; rw [accG_zero]; exact H.out.own, H.out.bel⟩
      case round =>
        obtain ⟨k, rfl, hk, hg3, HO, HB⟩ := hrel
        by_cases hlt : k < n6
        · exfalso; omega
        · have hltz : ¬ (k : Int) < (n6 : Int) := by omega
          have HE : Hid (accG acc x k ++ y = D) := by show _ = _; rw [accG_end (by have := H.out.l6; omega)]; exact HD2.out
          have HLN : Hid ((accG acc x k).length + y.length ≤ N) := by
            have h1 := H.out.len
            have h2 := H.out.l6
            have h3 := H.out.l7
            have h4 := accG_len2 acc x k
            show _ ≤ _
            omega
          go_wp2_with (at_builtin; refine append_p (by rfl) _ _ rfl w3.heap.size _ _ _ y rfl HO.out rfl (H.out.r7.below HB.out) (by have := HLN.out; omega) HB.out.size ?_)
          intro v5 w5 hr5 hb5 _
          rw [HE.out] at hr5
          obtain ⟨r1, r2⟩ := HFIN.out _ _ hr5 (HB.out.trans hb5)
          clear hr5 hb5
          go_wp2_with fail
          go_ret
          exact ⟨_, rfl, r1, r2⟩
end Go.Proofs.YtjanhebckonbaaaDoor
