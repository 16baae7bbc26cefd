/- The reference's Diff. -/
import Derived.Test.YtjanhebckonbaaaDoorMerge6
import Derived.Test.YtjanhebckonbaaaDoorFind
import Derived.Deep.Cut
namespace Go.Proofs.YtjanhebckonbaaaDoor
open Go.RowKit Nums Pm
set_option maxRecDepth 100000

theorem find_filter {l : List Pr} (h : SUp lessB l) (p : Pr → Bool) (k : ByteArray) : Pm.find (l.filter p) k = (Pm.find l k).filter fun v => p (k, v) := by
  cases e : Pm.find l k with
  | none =>
    refine find_none_of fun x hx hk => ?_
    have := SUp.find_of_mem lessB_sto h (List.mem_filter.1 hx).1
    rw [hk, e] at this
    cases this
  | some v =>
    have hm := find_mem e
    cases hp : p (k, v) with
    | false =>
      simp only [Option.filter, hp]
      refine find_none_of fun x hx hk => ?_
      have hx2 := List.mem_filter.1 hx
      have := SUp.find_of_mem lessB_sto h hx2.1
      rw [hk, e] at this
      simp only [Option.some.injEq] at this
      have hxe : x = (k, v) := Prod.ext hk this.symm
      rw [hxe, hp] at hx2
      cases hx2.2
    | true =>
      have hmk : (k, v) ∈ l.filter p := List.mem_filter.2 ⟨hm, hp⟩
      have hup : SUp lessB (l.filter p) := h.filter _
      have := SUp.find_of_mem lessB_sto hup hmk
      rw [this]
      simp [Option.filter, hp]
/-- What the first loop puts in, and what the second does. -/
def gone1 (X Y : List Pr) : List Pr := (X.filter fun z => (Pm.find Y z.1).isNone).map fun z => (z.1, (0 : Int))
def new2 (X Y : List Pr) : List Pr := Y.filter fun z => !(decide (Pm.find X z.1 = some z.2))
theorem diff_fold {X Y : List Pr} (hX : SUp lessB X) (hY : SUp lessB Y) : norm lessB (gone1 X Y ++ new2 X Y) = dif lessB X Y := by
  obtain ⟨h1, h2⟩ := dif_ok lessB_sto X Y hX hY
  refine SUp.ext lessB_sto (norm_up lessB_sto _) h1 fun k => ?_
  rw [norm_find lessB_sto, h2, find_append, gone1, new2, find_map0, find_filter hX, find_filter hY]
  cases e1 : Pm.find X k with
  | none =>
    cases e2 : Pm.find Y k with
    | none => rfl
    | some w => simp [Option.filter, chg, e1]
  | some v =>
    cases e2 : Pm.find Y k with
    | none => simp [Option.filter, chg, e2]
    | some w => by_cases e : v = w <;> simp [Option.filter, chg, e, e1, e2]
theorem gone1_in {X Y : List Pr} {k : Nat} {z : Pr} (hz : X[k]? = some z) (h : (Pm.find Y z.1).isSome = false) : gone1 (X.take (k + 1)) Y = gone1 (X.take k) Y ++ [(z.1, 0)] := by
  rw [gone1, gone1, take_succ_at hz, List.filter_append, List.map_append]
  have : (Pm.find Y z.1).isNone = true := by cases e : Pm.find Y z.1 <;> simp_all
  simp [this]
theorem gone1_out {X Y : List Pr} {k : Nat} {z : Pr} (hz : X[k]? = some z) (h : (Pm.find Y z.1).isSome = true) : gone1 (X.take (k + 1)) Y = gone1 (X.take k) Y := by
  rw [gone1, gone1, take_succ_at hz, List.filter_append, List.map_append]
  have : (Pm.find Y z.1).isNone = false := by cases e : Pm.find Y z.1 <;> simp_all
  simp [this]
theorem new2_in {X Y : List Pr} {k : Nat} {z : Pr} (hz : Y[k]? = some z) (h : ¬ Pm.find X z.1 = some z.2) : new2 X (Y.take (k + 1)) = new2 X (Y.take k) ++ [z] := by
  rw [new2, new2, take_succ_at hz, List.filter_append]
  simp [h]
theorem new2_out {X Y : List Pr} {k : Nat} {z : Pr} (hz : Y[k]? = some z) (h : Pm.find X z.1 = some z.2) : new2 X (Y.take (k + 1)) = new2 X (Y.take k) := by
  rw [new2, new2, take_succ_at hz, List.filter_append]
  simp [h]
theorem norm_snoc (l : List Pr) (z : Pr) : norm lessB (l ++ [z]) = put lessB (norm lessB l) z := by rw [norm, norm, List.foldl_append]; rfl
theorem gone1_len (X Y : List Pr) : (gone1 X Y).length ≤ X.length := by rw [gone1, List.length_map]; exact List.length_filter_le ..
theorem new2_len (X Y : List Pr) : (new2 X Y).length ≤ Y.length := List.length_filter_le ..
theorem Sm.gone1 {X : List Pr} (Y : List Pr) (h : Sm X) : Sm (gone1 X Y) := fun z hz => by
  obtain ⟨u, hu, rfl⟩ := List.mem_map.1 hz
  exact h u (List.mem_filter.1 hu).1
theorem Sm.new2 (X : List Pr) {Y : List Pr} (h : Sm Y) : Sm (new2 X Y) := fun z hz => h z (List.mem_filter.1 hz).1
theorem Sm.take {X : List Pr} (k : Nat) (h : Sm X) : Sm (X.take k) := fun z hz => h z (List.mem_of_mem_take hz)
set_option maxHeartbeats 1000000 in
theorem refDiff_any (w : World) (u v : Value) (l m : List Pr) (h1 : PRow w u l) (h2 : PRow w v m) (hl : l.length < 68719476736) (hm : m.length < 68719476736) (hs1 : Sm l) (hs2 : Sm m) :
    Calls Tryd.prog 22 #[u, v] w fun e w' => ∃ v', e = .returned v' ∧ POwn w.heap.size w' v' (diff lessB l m) ∧ Below w.heap.size w w' := by
  obtain ⟨ad1, cap1, rfl⟩ := h1.form
  obtain ⟨ad2, cap2, rfl⟩ := h2.form
  have hn1 := refNorm_any w _ l h1 (by omega) hs1
  have HR2 : Hid (PRow w (.slice ad2 m.length cap2) m) := h2
  have HS : Hid (Sm l ∧ Sm m) := ⟨hs1, hs2⟩
  clear h1 h2 hs1 hs2
  go_enter Tryd.func22, Tryd.ntmps22
  go_upto_region 3 with (go_at_call 16; refine hn1.mono ?_; rintro e w1 ⟨v1, rfl, ho1, hb1⟩)
  have H1 : Hid (POwn w.heap.size w1 v1 (norm lessB l) ∧ Below w.heap.size w w1) := ⟨ho1, hb1⟩
  have hn2 := refNorm_any w1 _ m (HR2.out.below hb1) (by omega) HS.out.2
  clear ho1 hb1 hn1
  go_upto_region 4 with (go_at_call 16; refine hn2.mono ?_; rintro e w3 ⟨v3, rfl, ho3, hb3⟩)
  obtain ⟨X, hX⟩ : ∃ X, X = norm lessB l := ⟨_, rfl⟩
  obtain ⟨Y, hY⟩ : ∃ Y, Y = norm lessB m := ⟨_, rfl⟩
  have HB3 : Hid (Below w.heap.size w w3) := H1.out.2.trans (hb3.mono H1.out.2.size)
  have hrx : PRow w3 v1 X := by rw [hX]; exact (H1.out.1.below hb3).row
  have hry : PRow w3 v3 Y := by rw [hY]; exact ho3.row
  have HSM : Hid (Sm X ∧ Sm Y) := by rw [hX, hY]; exact ⟨HS.out.1.norm, HS.out.2.norm⟩
  have hlx : X.length < 68719476736 := by rw [hX]; exact Nat.lt_of_le_of_lt (norm_len l) hl
  have hly : Y.length < 68719476736 := by rw [hY]; exact Nat.lt_of_le_of_lt (norm_len m) hm
  have HD : Hid (diff lessB l m = norm lessB (gone1 X Y ++ new2 X Y)) := by show _ = _; rw [hX, hY, diff_fold (norm_up lessB_sto l) (norm_up lessB_sto m)]; rfl
  obtain ⟨a6, c6, rfl⟩ := hrx.form
  obtain ⟨a7, c7, rfl⟩ := hry.form
  have HRX : Hid (PRow w3 (.slice a6 X.length c6) X) := hrx
  have HRY : Hid (PRow w3 (.slice a7 Y.length c7) Y) := hry
  have HFX : Hid (∀ W s, Below w3.heap.size w3 W → Calls Tryd.prog 18 #[.slice a6 X.length c6, .string s] W fun e w' => e = .returned (.tuple #[.int .i64 ((Pm.find X s).getD 0), .bool (Pm.find X s).isSome]) ∧ w' = W) := fun W s hW => refFind_any W _ X s (hrx.below hW) (by omega)
  have HFY : Hid (∀ W s, Below w3.heap.size w3 W → Calls Tryd.prog 18 #[.slice a7 Y.length c7, .string s] W fun e w' => e = .returned (.tuple #[.int .i64 ((Pm.find Y s).getD 0), .bool (Pm.find Y s).isSome]) ∧ w' = W) := fun W s hW => refFind_any W _ Y s (hry.below hW) (by omega)
  obtain ⟨n6, hn6⟩ : ∃ n, X.length = n := ⟨_, rfl⟩
  obtain ⟨n7, hn7⟩ : ∃ n, Y.length = n := ⟨_, rfl⟩
  have HN : Hid (X.length = n6 ∧ Y.length = n7) := ⟨hn6, hn7⟩
  rw [hn6] at HRX HFX hlx
  rw [hn7] at HRY HFY hly
  rw [hn6, hn7]
  clear hX hY ho3 hb3 hn2 H1 hrx hry hn6 hn7 HR2 HS
  go_wp2
  go_loopg [5, 8, 9, 10, 24] n6 (fun g s5 s8 _ _ _ wr => ∃ (k : Nat), s8 = .int .i64 k ∧ k ≤ n6 ∧ n6 - k ≤ g ∧ Hid (POwn w3.heap.size wr s5 (norm lessB (gone1 (X.take k) Y))) ∧ Hid (Below w3.heap.size w3 wr))
  case atStart => exact ⟨0, rfl, Nat.zero_le _, by omega, POwn.nil _ _, Below.refl _ _⟩
  case round =>
    obtain ⟨k, rfl, hk, hg, HO, HB⟩ := hrel
    by_cases hlt : k < n6
    · have hltz : (k : Int) < (n6 : Int) := by omega
      obtain ⟨z, hz⟩ : ∃ z, X[k]? = some z := ⟨X[k]'(by have := HN.out; omega), List.getElem?_eq_getElem _⟩
      obtain ⟨b, off, rfl, hb, hcell⟩ := (HRX.out.below HB.out).at (by omega)
      obtain ⟨c0, c1⟩ := hcell k z hz
      have hf := HFY.out wr z.1 HB.out
      cases his : (Pm.find Y z.1).isSome
      · have HE : Hid (put lessB (norm lessB (gone1 (X.take k) Y)) (z.1, 0) = norm lessB (gone1 (X.take (k + 1)) Y)) := by show _ = _; rw [gone1_in hz his, norm_snoc]
        have hp := refPut_any wr u5 (norm lessB (gone1 (X.take k) Y)) (z.1, 0) HO.out.row (by have h1 := norm_len (gone1 (X.take k) Y); have h2 := gone1_len (X.take k) Y; have h3 : (X.take k).length ≤ k := List.length_take_le ..; omega) ((HSM.out.1.take k).gone1 Y).norm (show z.1.size ≤ _ from HSM.out.1.at hz)
        rw [his] at hf
        clear hcell hz his
        go_wp2_with (first | (go_at_call 18; refine hf.mono ?_; rintro e w4 ⟨rfl, rfl⟩) | (go_at_call 28; refine hp.mono ?_; rintro e w4 ⟨v4, rfl, ho4, hb4⟩))
        go_roundg (n6 - (k + 1))
        case measure => omega
        case rel =>
          rw [HE.out] at ho4
          exact ⟨k + 1, by go_num, by omega, Nat.le_refl _, ho4.mono HB.out.size, HB.out.trans (hb4.mono HB.out.size)⟩
      · have HE : Hid (norm lessB (gone1 (X.take k) Y) = norm lessB (gone1 (X.take (k + 1)) Y)) := by show _ = _; rw [gone1_out hz his]
        rw [his] at hf
        clear hcell hz his
        go_wp2_with (first | (go_at_call 18; refine hf.mono ?_; rintro e w4 ⟨rfl, rfl⟩))
        go_roundg (n6 - (k + 1))
        case measure => omega
        case rel => exact ⟨k + 1, by go_num, by omega, Nat.le_refl _, by show POwn _ _ _ _; rw [← HE.out]; exact HO.out, HB⟩
    · have hltz : ¬ (k : Int) < (n6 : Int) := by omega
      have HE : Hid (X.take k = X) := List.take_of_length_le (by have := HN.out; omega)
      rw [HE.out] at HO
      go_wp2
      go_loopg [5, 11, 12, 13, 50] n7 (fun g s5 s11 _ _ _ wq => ∃ (k : Nat), s11 = .int .i64 k ∧ k ≤ n7 ∧ n7 - k ≤ g ∧ Hid (POwn w3.heap.size wq s5 (norm lessB (gone1 X Y ++ new2 X (Y.take k)))) ∧ Hid (Below w3.heap.size w3 wq))
      case atStart => exact ⟨0, rfl, Nat.zero_le _, by omega, by show POwn _ _ _ _; rw [show gone1 X Y ++ new2 X (Y.take 0) = gone1 X Y by simp [new2]]; exact HO.out, HB⟩
      case round =>
        clear HO HB
        obtain ⟨k2, rfl, hk2, hg2, HO, HB⟩ := hrel
        by_cases hlt2 : k2 < n7
        · have hlt2z : (k2 : Int) < (n7 : Int) := by omega
          obtain ⟨z, hz⟩ : ∃ z, Y[k2]? = some z := ⟨Y[k2]'(by have := HN.out; omega), List.getElem?_eq_getElem _⟩
          obtain ⟨b, off, rfl, hb, hcell⟩ := (HRY.out.below HB.out).at (by omega)
          obtain ⟨c0, c1⟩ := hcell k2 z hz
          have hf := HFX.out wr z.1 HB.out
          have hp := refPut_any wr u5 (norm lessB (gone1 X Y ++ new2 X (Y.take k2))) z HO.out.row (by have h1 := norm_len (gone1 X Y ++ new2 X (Y.take k2)); have h2 := gone1_len X Y; have h4 := new2_len X (Y.take k2); have h3 : (Y.take k2).length ≤ k2 := List.length_take_le ..; have := HN.out; rw [List.length_append] at h1; omega) (Sm.norm ((HSM.out.1.gone1 Y).append ((HSM.out.2.take k2).new2 X))) (HSM.out.2.at hz)
          obtain ⟨O, hO⟩ : ∃ O, Pm.find X z.1 = O := ⟨_, rfl⟩
          rw [hO] at hf
          have HFO : Hid (Pm.find X z.1 = O) := hO
          have HZ : Hid (Y[k2]? = some z) := hz
          clear hcell hz hO
          cases O with
          | none =>
            have HE2 : Hid (put lessB (norm lessB (gone1 X Y ++ new2 X (Y.take k2))) z = norm lessB (gone1 X Y ++ new2 X (Y.take (k2 + 1)))) := by show _ = _; rw [new2_in HZ.out (by rw [HFO.out]; simp), ← List.append_assoc, norm_snoc]
            go_wp2_with (first | (go_at_call 18; refine hf.mono ?_; rintro e w4 ⟨rfl, rfl⟩) | (go_at_call 28; refine hp.mono ?_; rintro e w4 ⟨v4, rfl, ho4, hb4⟩))
            go_roundg (n7 - (k2 + 1))
            case measure => omega
            case rel =>
              rw [HE2.out] at ho4
              exact ⟨k2 + 1, by go_num, by omega, Nat.le_refl _, ho4.mono HB.out.size, HB.out.trans (hb4.mono HB.out.size)⟩
          | some o =>
            by_cases hoz : o = z.2
            · have hozb : (o == z.2) = true := beq_iff_eq.2 hoz
              have HE2 : Hid (norm lessB (gone1 X Y ++ new2 X (Y.take k2)) = norm lessB (gone1 X Y ++ new2 X (Y.take (k2 + 1)))) := by show _ = _; rw [new2_out HZ.out (by rw [HFO.out, hoz])]
              clear hoz
              go_wp2_with (first | (go_at_call 18; refine hf.mono ?_; rintro e w4 ⟨rfl, rfl⟩))
              go_roundg (n7 - (k2 + 1))
              case measure => omega
              case rel => exact ⟨k2 + 1, by go_num, by omega, Nat.le_refl _, by show POwn _ _ _ _; rw [← HE2.out]; exact HO.out, HB⟩
            · have hozb : (o == z.2) = false := beq_eq_false_iff_ne.2 hoz
              have HE2 : Hid (put lessB (norm lessB (gone1 X Y ++ new2 X (Y.take k2))) z = norm lessB (gone1 X Y ++ new2 X (Y.take (k2 + 1)))) := by show _ = _; rw [new2_in HZ.out (by rw [HFO.out]; simpa using hoz), ← List.append_assoc, norm_snoc]
              clear hoz
              go_wp2_with (first | (go_at_call 18; refine hf.mono ?_; rintro e w4 ⟨rfl, rfl⟩) | (go_at_call 28; refine hp.mono ?_; rintro e w4 ⟨v4, rfl, ho4, hb4⟩))
              go_roundg (n7 - (k2 + 1))
              case measure => omega
              case rel =>
                rw [HE2.out] at ho4
                exact ⟨k2 + 1, by go_num, by omega, Nat.le_refl _, ho4.mono HB.out.size, HB.out.trans (hb4.mono HB.out.size)⟩
        · have hlt2z : ¬ (k2 : Int) < (n7 : Int) := by omega
          have HE2 : Hid (Y.take k2 = Y) := List.take_of_length_le (by have := HN.out; omega)
          rw [HE2.out, ← HD.out] at HO
          go_wp2
          go_ret
          exact ⟨_, rfl, HO.out.mono HB3.out.size, HB3.out.trans (HB.out.mono HB3.out.size)⟩
end Go.Proofs.YtjanhebckonbaaaDoor
