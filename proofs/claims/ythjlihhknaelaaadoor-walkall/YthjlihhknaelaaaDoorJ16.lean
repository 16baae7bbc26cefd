/- Texts that were written apart, joined. -/
import Derived.Test.YthjlihhknaelaaaDoorJ15
import Derived.Deep.QuietTactic
import Derived.BigQuiet
import Derived.Test.YthjlihhknaelaaaDoorJ6
/- The reference's First: the rune with whose writing a text begins. -/
namespace Go.Proofs.YthjlihhknaelaaaDoor
open Go.RowKit Nums
set_option maxRecDepth 100000
attribute [local go_sem ↓] Go.wp_at_zero Go.wp_at_succ

theorem wr_toList (r : Int) : (strOfNums (wrI r)).toList = wr r := by
  rw [ByteArray.toList_eq, strOfNums_data]; rfl
theorem ext_toList (s : ByteArray) (n : Nat) : (s.extract 0 n).toList = s.data.toList.take n := by
  rw [ByteArray.toList_eq]; simp [ByteArray.extract, ByteArray.copySlice]

theorem Rune_is (r : Int) (w : World) {b : Bool} (h : isR r = b) : Calls Tryd.prog 79 #[.int .i64 r] w fun e w' => e = .returned (.bool b) ∧ w' = w := by
  rw [← h]; exact Rune_any r w

set_option maxHeartbeats 2000000 in
theorem First_any (s : ByteArray) (w : World) (h0 : 0 < s.size) (hm : s.size ≤ 9223372036854775807) :
    Calls Tryd.prog 68 #[.string s] w fun e w' => e = .returned (.tuple #[.int .i64 (rd s.data.toList).1, .int .i64 (rd s.data.toList).2]) ∧ Below w.heap.size w w' := by
  have HNE : Hid (s.data.toList ≠ []) := ne_of_size h0
  have HBD : Hid ((rd s.data.toList).2 ≤ s.data.toList.length ∧ (rd s.data.toList).2 ≤ 4) := rd_bd HNE.out
  go_enter Tryd.func68, Tryd.ntmps68
  go_wp2
  go_loopw [4] (fun i wr => ∃ k : Nat, 1 ≤ k ∧ k ≤ 5 ∧ i = .int .i64 k ∧ (∀ j, 1 ≤ j → j < k → (rd s.data.toList).2 ≠ j) ∧ Below w.heap.size w wr) (fun i _ => 5 - (intOf i).toNat)
  case atStart => exact ⟨1, by omega, by omega, rfl, fun j a b => by omega, Below.refl _ _⟩
  case round =>
    obtain ⟨k, hk1, hk5, rfl, hno, hbel⟩ := hrel
    have HNO : Hid (∀ j, 1 ≤ j → j < k → (rd s.data.toList).2 ≠ j) := hno
    clear hno
    by_cases hk : k ≤ 4 ∧ k ≤ s.size
    · obtain ⟨hk4, hks⟩ := hk
      have hsb := sd_bd s.data.toList k
      generalize hx : sd s.data.toList k = x at *
      have HX : Hid (sd s.data.toList k = x) := hx
      clear hx
      cases hr : isR x
      · have HR : Hid (isR x = false) := hr
        clear hr
        have HF : Hid (∀ j, 1 ≤ j → j < k + 1 → (rd s.data.toList).2 ≠ j) := fun j a b => by
          by_cases e : j = k
          · subst e; exact first_no HNE.out hk1 (fun h => by have h2 := h.1; rw [HX.out, HR.out] at h2; cases h2)
          · exact HNO.out j a (by omega)
        go_wp2_with (go_at_call 78; refine (said_any s k _ hk1 hk4 hks hm).mono ?_; rintro e w' ⟨rfl, rfl⟩; rw [HX.out])
        go_quiet ((go_at_call 79; exact Calls.quiet_of_same (Rune_is _ _ HR.out)))
        go_wp2
        go_roundw
        case rel => exact ⟨k + 1, by omega, by omega, by go_num, HF.out, below_drewN hbel _⟩
        case measure => simp [intOf]; omega
      · have HR : Hid (isR x = true) := hr
        clear hr
        have h1k : (k : Int) ≤ (s.size : Int) := by omega
        have h1k' : (0 : Int) ≤ (k : Int) := by omega
        by_cases hw : Nums.wr x = s.data.toList.take k
        · have HW : Hid (Nums.wr x = s.data.toList.take k) := hw
          have hq : ((strOfNums (wrI x)).toList == (s.extract 0 k).toList) = true := by rw [wr_toList, ext_toList, hw]; simp
          clear hw
          have HF : Hid (rd s.data.toList = (x, k)) := by
            have := first_yes (l := s.data.toList) (n := k) (by rw [size_length]; exact hks) (by rw [HX.out]; exact HR.out) (by rw [HX.out]; exact HW.out)
            rw [HX.out] at this; exact this
          go_wp2_with (go_at_call 78; refine (said_any s k _ hk1 hk4 hks hm).mono ?_; rintro e w' ⟨rfl, rfl⟩; rw [HX.out])
          go_region_held3 (fun _ => True) (trivial) (first | (go_at_call 79; refine (Rune_is _ _ HR.out).mono ?_; rintro e w' ⟨rfl, rfl⟩) | (go_at_call 80; refine (Write_any _ _ HR.out).mono ?_; rintro e w3 ⟨rfl, hb3⟩))
          all_goals go_wp2
          all_goals go_ret2
          refine ⟨?_, ?_⟩
          · rw [HF.out]; rfl
          · exact hbel.drew.trans (hb3.mono hbel.size)
        · have hq : ((strOfNums (wrI x)).toList == (s.extract 0 k).toList) = false := by rw [wr_toList, ext_toList]; simpa using hw
          have HW : Hid (¬ Nums.wr x = s.data.toList.take k) := hw
          clear hw
          have HF : Hid (∀ j, 1 ≤ j → j < k + 1 → (rd s.data.toList).2 ≠ j) := fun j a b => by
            by_cases e : j = k
            · subst e; exact first_no HNE.out hk1 (fun h => by have h2 := h.2; rw [HX.out] at h2; exact HW.out h2)
            · exact HNO.out j a (by omega)
          go_wp2_with (go_at_call 78; refine (said_any s k _ hk1 hk4 hks hm).mono ?_; rintro e w' ⟨rfl, rfl⟩; rw [HX.out])
          go_region_held3 (fun _ => True) (trivial) (first | (go_at_call 79; refine (Rune_is _ _ HR.out).mono ?_; rintro e w' ⟨rfl, rfl⟩) | (go_at_call 80; refine (Write_any _ _ HR.out).mono ?_; rintro e w3 ⟨rfl, hb3⟩))
          all_goals go_wp2
          go_roundw
          case rel => exact ⟨k + 1, by omega, by omega, by go_num, HF.out, hbel.drew.trans (hb3.mono hbel.size)⟩
          case measure => simp [intOf]; omega
    · have HZ : Hid (rd s.data.toList = (0, 0)) := by
        refine rd_zero ?_
        by_cases z : (rd s.data.toList).2 = 0
        · exact z
        · have h2 := HBD.out
          rw [size_length] at h2
          exact absurd rfl (HNO.out (rd s.data.toList).2 (by omega) (by omega))
      by_cases hk4 : k ≤ 4
      · have hks : ¬ k ≤ s.size := fun h => hk ⟨hk4, h⟩
        clear hk
        go_wp2
        go_ret2
        refine ⟨?_, hbel⟩
        rw [HZ.out]; rfl
      · clear hk
        go_wp2
        go_ret2
        refine ⟨?_, hbel⟩
        rw [HZ.out]; rfl
end Go.Proofs.YthjlihhknaelaaaDoor

/- The reference's Runes: the same runes, in new memory, or none. -/
namespace Go.Proofs.YthjlihhknaelaaaDoor
open Go.RowKit Nums
set_option maxRecDepth 100000

set_option maxHeartbeats 2000000 in
theorem RefRunes_any (s : ByteArray) (w : World) (hm : s.size ≤ 9223372036854775807) (hroom : Room s.data.toList) :
    Calls Tryd.prog 54 #[.string s] w fun e w' => ∃ v, Below w.heap.size w w' ∧
      ((rs s.data.toList = none ∧ v = .slice none 0 0 ∧ e = .returned (.tuple #[v, .bool false])) ∨
       ∃ xs, rs s.data.toList = some xs ∧ e = .returned (.tuple #[v, .bool true]) ∧ Made w.heap.size w' v xs) := by
  obtain ⟨i0, hi, hz0, hz1, hz2⟩ := info_parts infoRune
  go_enter Tryd.func54, Tryd.ntmps54
  go_wp2
  go_loopw [0, 4] (fun t v wr => ∃ (m : ByteArray) (pre : List Int), t = .string m ∧ m.size + pre.length ≤ s.size ∧ Made w.heap.size wr v pre ∧ Remains s.data.toList m.data.toList pre ∧ Below w.heap.size w wr)
    (fun t _ _ => lenOf t)
  case atStart => exact ⟨s, [], rfl, by simp, World.ownsRow_nil _ _ _ _, left_start _, Below.refl _ _⟩
  case round =>
    obtain ⟨m, pre, rfl, hms, hown, hL, hbel⟩ := hrel
    have HL : Hid (Remains s.data.toList m.data.toList pre) := hL
    clear hL
    by_cases h0 : 0 < m.size
    · have hne := ne_of_size h0
      have hbd := rd_bd hne
      rw [size_length] at hbd
      have HNE : Hid (m.data.toList ≠ []) := hne
      clear hne
      generalize hr : rd m.data.toList = q at hbd
      obtain ⟨r, n⟩ := q
      have HR : Hid (rd m.data.toList = (r, n)) := hr
      clear hr
      simp only at hbd
      by_cases hn : n = 0
      · subst hn
        have HF : Hid (rs s.data.toList = none) := left_none HL.out HNE.out (by rw [HR.out])
        go_wp2_with (go_at_call 68; refine (First_any _ _ h0 (by omega)).mono ?_; rintro e w2 ⟨rfl, hb2⟩; rw [HR.out])
        go_ret2
        exact ⟨_, hbel.trans (hb2.mono hbel.size), .inl ⟨HF.out, rfl, rfl⟩⟩
      have hrb : 0 ≤ r ∧ r < 1114112 := by
        have h2 := rd_isR (l := m.data.toList) (by rw [HR.out]; exact hn)
        rw [HR.out] at h2; exact isR_bd h2
      have hn0 : ((n : Int) == 0) = false := beq_eq_false_iff_ne.2 (by omega)
      have hrm : pre.length + 1 ≤ 35184372088832 := hroom m.data.toList pre HL.out (by rw [size_length, size_length]; exact hms) HNE.out (by rw [HR.out]; exact hn)
      go_wp2_with (first
        | (go_at_call 68; refine (First_any _ _ h0 (by omega)).mono ?_; rintro e w2 ⟨rfl, hb2⟩; rw [HR.out])
        | (at_builtin; refine wpList_append_own _ rfl _ _ 65 rfl w.heap.size 21 i0 (.int .i32 0) 1 4 Tryd.underlying65 hi hz0 hz1 hz2 rfl (by decide) _ _ _ rfl (World.ownsRow.alloc (hown.below hb2) _) ⟨w2.heap.size, 0, none⟩ 1 1 [.int .i32 r] rfl rfl ?c1 ?c2 ?c3 ?c4 ?c5 ?_))
      case c1 =>
        intro j u hj
        match j, hj with
        | 0, hj => simp at hj; subst hj; exact cell_new w2 r
      case c2 => intro u hu; simp at hu; subst hu; rfl
      case c3 => unfold maxLen; omega
      case c4 => omega
      case c5 => have := hbel.size; have := hb2.size; simp; omega
      intro v' w1 hown' hgrow _
      have hown2 : Made w.heap.size w1 v' (pre ++ [r]) := by unfold Made; simpa using hown'
      have hbw : Below w.heap.size w w2 := hbel.trans (hb2.mono hbel.size)
      have hb1 : Below w.heap.size w w1 := (hbw.alloc hbw.size _).grown hgrow (by have := hbw.size; simp; omega) (fun k hk => (World.ownsRow.lt hown k hk).1)
      clear hown' hgrow hown
      go_wp2
      go_roundw
      case rel => exact ⟨m.extract n m.size, pre ++ [r], rfl, by rw [extract_size]; simp; omega, hown2, rest_go HL.out HNE.out HR.out hn, hb1⟩
      case measure => simp only [lenOf]; rw [extract_size]; omega
    · have HN : Hid (m.data.toList = []) := nil_of_size h0
      have HF : Hid (rs s.data.toList = some pre) := left_end (by have := HL.out; rw [HN.out] at this; exact this)
      go_wp2
      go_ret2
      exact ⟨_, hbel, .inr ⟨pre, HF.out, rfl, hown⟩⟩
end Go.Proofs.YthjlihhknaelaaaDoor

/- FstWords: the law's own walk. -/
namespace Go.Proofs.YthjlihhknaelaaaDoor
open Go.RowKit Nums Fm
set_option maxRecDepth 100000

theorem lexL_irr : ∀ x : List Int, lexL x x = false
  | [] => rfl
  | a :: x => by rw [lexL_same, lexL_irr x]
theorem wt_mem : ∀ {S : List En} {xs : List Int} {n : Int}, Rise S → (xs, n) ∈ S → wt xs S = some n
  | [], _, _, _, h => by cases h
  | e :: r, xs, n, hr, h => by
    obtain ⟨h1, h2⟩ := List.pairwise_cons.1 hr
    rw [wt_cons]
    rcases List.mem_cons.1 h with h | h
    · rw [← h, if_pos rfl]
    · have := h1 _ h
      have hne : e.1 ≠ xs := fun e2 => by rw [e2] at this; simp only [lexL_irr] at this; cases this
      rw [if_neg hne, wt_mem h2 h]
/-- Runes of a text, by the reference. -/
theorem refRunes_yes {s : ByteArray} {xs : List Int} (h : rs s.data.toList = some xs) (hx : xs.length ≤ 1048576) (hs : s.size ≤ 9223372036854775807) (W : World) : Calls Tryd.prog 54 #[.string s] W fun e w' => ∃ v, e = .returned (.tuple #[v, .bool true]) ∧ RunesAt w'.heap.size w' v xs ∧ Below W.heap.size W w' := by
  refine (RefRunes_any s W hs (room_of_runes h (by omega))).mono ?_
  rintro e w' ⟨v, hb, ⟨h1, _⟩ | ⟨ys, h1, h2, h3⟩⟩
  · rw [h] at h1; cases h1
  · rw [h] at h1; cases h1
    exact ⟨v, h2, h3.runes, hb⟩
end Go.Proofs.YthjlihhknaelaaaDoor

/- The reference's Find of layer 6; what a dictionary's list and its machine say of a word. -/
namespace Go.Proofs.YthjlihhknaelaaaDoor
open Go.RowKit Nums Fm
set_option maxRecDepth 100000

theorem take_succ_at {l : List Pr} {k : Nat} {x : Pr} (h : l[k]? = some x) : l.take (k + 1) = l.take k ++ [x] := by
  rw [List.take_add_one, h]; rfl
set_option maxHeartbeats 2000000 in
theorem refFind_any (w : World) (v : Value) (l : List Pr) (s : ByteArray) (h : PRow w v l) (hl : l.length ≤ 9223372036854775807) :
    Calls Tryd.prog 17 #[v, .string s] w fun e w' => e = .returned (.tuple #[.int .i64 ((Pm.find l s).getD 0), .bool (Pm.find l s).isSome]) ∧ w' = w := by
  obtain ⟨ad, cap, rfl⟩ := h.form
  have HR : Hid (PRow w (.slice ad l.length cap) l) := h
  obtain ⟨n, hn⟩ : ∃ n, l.length = n := ⟨_, rfl⟩
  have HN : Hid (l.length = n) := hn
  obtain ⟨F, hF⟩ : ∃ F, Pm.find l s = F := ⟨_, rfl⟩
  have HF : Hid (Pm.find l s = F) := hF
  rw [hn] at HR hl
  clear h
  rw [hn, hF]
  clear hn hF
  go_enter Tryd.func17, Tryd.ntmps17
  go_wp2
  go_loopg [6] n (fun g s6 wr => ∃ (k : Nat), s6 = .int .i64 ((k : Int) - 1) ∧ k ≤ n ∧ k ≤ g ∧ wr = w ∧ Hid (Pm.find (l.take k) s = F))
  case atStart => exact ⟨n, rfl, Nat.le_refl _, Nat.le_refl _, rfl, by show _ = _; rw [List.take_of_length_le (by have := HN.out; omega)]; exact HF.out⟩
  case round =>
    obtain ⟨k, rfl, hk, hg, rfl, HK⟩ := hrel
    cases k with
    | zero =>
      have HE : Hid (F = none) := by show _ = _; rw [← HK.out]; rfl
      go_wp2
      go_ret2
      rw [HE.out]
      exact ⟨rfl, rfl⟩
    | succ k =>
      have e1 : ((k + 1 : Nat) : Int) - 1 = (k : Int) := by omega
      obtain ⟨x, hx⟩ : ∃ x, l[k]? = some x := ⟨l[k]'(by have := HN.out; omega), List.getElem?_eq_getElem _⟩
      obtain ⟨b, off, rfl, hb, hcell⟩ := HR.out.at (by omega)
      obtain ⟨c0, c1⟩ := hcell k x hx
      have hstep : Pm.find (l.take (k + 1)) s = if x.1 = s then some x.2 else Pm.find (l.take k) s := by rw [take_succ_at hx, Pm.find_snoc]
      have hk0 : (0 : Int) ≤ (k : Int) := by omega
      have hkn : (k : Int) < (n : Int) := by omega
      have ekn : (k : Int).toNat = k := by omega
      clear hx hcell
      by_cases hxs : x.1 = s
      · have hs : (x.1.toList == s.toList) = true := by rw [strEq]; exact decide_eq_true hxs
        have HE : Hid (F = some x.2) := by show _ = _; rw [← HK.out, hstep, if_pos hxs]
        clear hxs hstep
        go_wp2
        go_ret2
        rw [HE.out]
        exact ⟨rfl, rfl⟩
      · have hs : (x.1.toList == s.toList) = false := by rw [strEq]; exact decide_eq_false hxs
        have HE : Hid (Pm.find (l.take k) s = F) := by show _ = _; rw [← HK.out, hstep, if_neg hxs]
        clear hxs hstep
        go_wp2
        go_roundg k
        case measure => omega
        case rel => exact ⟨k, by first | rfl | go_num, by omega, Nat.le_refl _, rfl, HE⟩
theorem find_some_of {l : List Pr} {x : Pr} (h : x ∈ l) : Pm.find l x.1 ≠ none := by
  induction l with
  | nil => cases h
  | cons y r ih =>
    rw [Pm.find_cons]
    rcases List.mem_cons.1 h with rfl | h
    · cases Pm.find r x.1 <;> simp
    · cases hf : Pm.find r x.1 with
      | none => exact absurd hf (ih h)
      | some v => simp
theorem wt_find : ∀ {S : List En} {xs : List Int} {n : Int}, wt xs S = some n → (xs, n) ∈ S
  | [], _, _, h => by cases h
  | e :: r, xs, n, h => by
    rw [wt_cons] at h
    split at h
    · rename_i he
      have : e = (xs, n) := Prod.ext he (Option.some.inj h)
      rw [this]; simp
    · exact .tail _ (wt_find h)
theorem find_wt {l : List Pr} (hd : DictOk l) {s : ByteArray} {xs : List Int} (hs : rs s.data.toList = some xs) : Pm.find l s = wt xs (ents l) := by
  cases hf : Pm.find l s with
  | some v =>
    have hm := Pm.find_mem hf
    exact (wt_mem hd.rise (List.mem_map.2 ⟨(s, v), hm, by rw [entOf, hs]; rfl⟩)).symm
  | none =>
    cases hw : wt xs (ents l) with
    | none => rfl
    | some n =>
      exfalso
      obtain ⟨x, hx, he⟩ := List.mem_map.1 (wt_find hw)
      obtain ⟨ys, h1, _⟩ := hd.wd x hx
      rw [entOf, h1] at he
      have hy : ys = xs := (Prod.mk.inj he).1
      subst hy
      have e1 := (rs_write h1).2
      have e2 := (rs_write hs).2
      have : x.1 = s := ba_ext (e1.symm.trans e2)
      rw [← this] at hf
      exact find_some_of hx hf
end Go.Proofs.YthjlihhknaelaaaDoor
