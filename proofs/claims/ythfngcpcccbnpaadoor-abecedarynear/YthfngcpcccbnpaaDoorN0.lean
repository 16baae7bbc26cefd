/- Texts that were written apart, joined. -/
import Derived.Test.YthfngcpcccbnpaaDoorP0
import Derived.Test.YthfngcpcccbnpaaDoorP1
import Derived.Test.YthfngcpcccbnpaaDoorE2
import Derived.Test.YthfngcpcccbnpaaDoorFzLawA
import Derived.Test.YthfngcpcccbnpaaDoorG0
import Derived.Test.YthfngcpcccbnpaaDoorL1
/- edit.Path. -/
namespace Go.Proofs.YthfngcpcccbnpaaDoor
open Go.RowKit Nums Ed
set_option maxRecDepth 100000

/-- What Path tells. -/
def PathSays (w w' : World) (a b : List UInt8) (v : Value) (f : Bool) : Prop :=
  Below w.heap.size w w' ∧ ((f = false ∧ v = .slice none 0 0 ∧ dsE a b = none) ∨ (f = true ∧ ∃ (x y : List Int) (ls : List (List Int)), rs a = some x ∧ rs b = some y ∧ dsE a b = some (lv x y) ∧ SMade w.heap.size w' v (ls.map textS) ∧ Way ls x y ∧ ls.length = lv x y + 1 ∧ ∀ l ∈ ls, l.all isR = true ∧ l.length ≤ 4000))
set_option maxHeartbeats 1000000 in
theorem Path_any (a b : ByteArray) (w : World) (ht : Tabs w) (ha : a.size ≤ 9223372036854775807) (hb : b.size ≤ 9223372036854775807) :
    Calls Tryd.prog 17 #[.string a, .string b] w fun e w' => ∃ v f, e = .returned (.tuple #[v, .bool f]) ∧ PathSays w w' a.data.toList b.data.toList v f := by
  go_enter Tryd.func17, Tryd.ntmps17
  go_upto_region 2 with (go_at_call 35; refine (both_any a b _ ht ha hb).mono ?_; rintro e w1 ⟨vx, vy, f, rfl, hbo⟩)
  obtain ⟨hb1, ⟨rfl, hno⟩ | ⟨rfl, xs, ys, h1, h2, m1, m2⟩⟩ := hbo
  · have HF : Hid (dsE a.data.toList b.data.toList = none) := hno
    clear hno
    go_wp2
    go_ret2
    exact ⟨_, _, rfl, hb1, .inl ⟨rfl, rfl, HF.out⟩⟩
  have HF : Hid (dsE a.data.toList b.data.toList = some (lv xs ys)) := dsE_some h1 h2
  have hxl := (rsE_out h1).2
  have hyl := (rsE_out h2).2
  have H1 : Hid (rs a.data.toList = some xs) := (rsE_out h1).1
  have H2 : Hid (rs b.data.toList = some ys) := (rsE_out h2).1
  clear h1 h2
  have HX : Hid (RunesAt w1.heap.size w1 vx xs) := m1.runesE
  have HY : Hid (RunesAt w1.heap.size w1 vy ys) := m2.runesE
  have ht1 : Tabs w1 := ht.below hb1
  clear m1 m2
  go_wp2_with (first
    | (go_at_call 40; refine (aligned_any vx vy xs ys _ HX.out HY.out (by omega) (by omega) (rs_write H1.out).1 (rs_write H2.out).1).mono ?_; rintro e w2 ⟨vF, vT, F, T, gF, gT, rfl, hLF, hLT, hne, hgF, hunF, hunT, hlen, hsm, hdif, hokF, hokT, hb2⟩)
    | (go_at_call 39; refine (turned_any w1 vF vT gF gT F T _ ht1 hb2 hgF hLF hLT hne hlen (by omega) hokF hokT).mono ?_; rintro e w3 ⟨v, ls, rfl, hS, hway, hcnt, hok, hb3⟩))
  go_ret2
  have hb12 : Below w.heap.size w w2 := hb1.trans (hb2.mono hb1.size)
  have hgw : w.heap.size ≤ gF := Nat.le_trans hb1.size hgF
  refine ⟨_, _, rfl, hb12.trans (hb3.below hgw hb12.size), .inr ⟨rfl, xs, ys, ls, H1.out, H2.out, HF.out, hS.mono hb12.size, ?_, by rw [hcnt, hdif], fun l hl => ⟨(hok l hl).1, by have := (hok l hl).2; omega⟩⟩⟩
  rw [hunF, hunT] at hway
  exact hway
end Go.Proofs.YthfngcpcccbnpaaDoor

/- AbecedaryNear: where there is no automaton, or no other word. -/
namespace Go.Proofs.YthfngcpcccbnpaaDoor
open Go.RowKit Go.Shelf Go.Lib Nums Fm Pk Pm Fz Ed Lv
set_option maxRecDepth 100000

attribute [local go_sem ↓] exec_alloc_R exec_box_R exec_load_R exec_store_R
attribute [local go_sem] rV_cells
theorem one_nw (w : World) (x : Pr) (T : TypeId) (c : Nat) : PRow (w.alloc (.cells #[.string x.1, .int .i64 x.2] T)) (.slice (some ⟨w.heap.size, 0, none⟩) 1 c) [x] := PRow.one (TwoAt.new w x T)
theorem nw_ok {o : ByteArray} (h : wordB o.data.toList = true) : buildE [(o, 1)] = 0 := by
  refine right_build ?_
  simp [rightP, rightFrom, oneOk, prevOk, h]
theorem near_one (o : ByteArray) (xs : List Int) (d : Nat) : nearOf xs d [(o, 1)] = if lv (entOf (o, 1)).1 xs ≤ d then [(o, 1, (lv (entOf (o, 1)).1 xs : Int))] else [] := by
  unfold nearOf
  split
  · rename_i h; simp [h]
  · rename_i h; simp [h]
set_option maxHeartbeats 4000000 in
theorem anear_not (s o : ByteArray) (e : Int) (w : World) (ht : Tabs w) (hz : s.size ≤ 9223372036854775807) (ho : o.size ≤ 9223372036854775807) (hn : Go.Proofs.YthfngcpcccbnpaaDoor.rightB s.data.toList e = false ∨ wordB o.data.toList = false) :
    Calls Tryd.prog 6 #[.string s, .string o, .int .i64 e] w fun x w' => x = .returned (.bool true) ∧ Below w.heap.size w w' := by
  have HT : Hid (Tabs w) := ht
  have HW : Hid (∀ (q : ByteArray) W, q.size ≤ 9223372036854775807 → Below w.heap.size w W → Calls Tryd.prog 15 #[.string q] W fun x w' => x = .returned (.bool (wordB q.data.toList)) ∧ Below w.heap.size w w') := fun q W hq hW => by
    refine (Word_any q W (HT.out.below hW) hq).mono ?_
    rintro x w' ⟨rfl, hw⟩
    exact ⟨rfl, by obtain ⟨n, rfl⟩ := hw; exact hW.trans ((below_drewN (Below.refl _ _) n).mono hW.size)⟩
  have HNEW : Hid (Calls Tryd.prog 14 #[.string s, .int .i64 e] w fun x w' => ∃ v c, x = .returned (.tuple #[v, .int .i64 c]) ∧ NewSays w w' s.data.toList e v c) := New_any s e w ht hz
  cases hr : Go.Proofs.YthfngcpcccbnpaaDoor.rightB s.data.toList e with
  | false =>
    have HNO : Hid (Calls Tryd.prog 14 #[.string s, .int .i64 e] w fun x w' => x = .returned (.tuple #[.pointer none, .int .i64 110]) ∧ Below w.heap.size w w') := by
      refine HNEW.out.mono ?_
      rintro x w' ⟨v, c, rfl, hb, ⟨_, rfl, rfl⟩ | ⟨h2, _⟩⟩
      · exact ⟨rfl, hb⟩
      · rw [hr] at h2; cases h2
    simp only [Go.Proofs.YthfngcpcccbnpaaDoor.rightB, Bool.and_eq_false_iff, decide_eq_false_iff_not] at hr
    by_cases h1 : e < 0
    · clear hr hn ht HNEW
      go_enter Tryd.func6, Tryd.ntmps6
      go_wp2_with (go_at_call 14; refine HNO.out.mono ?_; rintro x w1 ⟨rfl, hb1⟩; have HB1 : Hid (Below w.heap.size w w1) := hb1; clear hb1)
      go_ret
      exact ⟨by first | rfl | simp, HB1.out⟩
    · by_cases h2 : 3 < e
      · clear hr hn ht HNEW
        go_enter Tryd.func6, Tryd.ntmps6
        go_wp2_with (go_at_call 14; refine HNO.out.mono ?_; rintro x w1 ⟨rfl, hb1⟩; have HB1 : Hid (Below w.heap.size w w1) := hb1; clear hb1)
        go_ret
        exact ⟨by first | rfl | simp, HB1.out⟩
      · have hws : wordB s.data.toList = false := by
          rcases hr with (g | g) | g
          · exact g
          · omega
          · omega
        have HW1 := fun W (hW : Below w.heap.size w W) => HW.out s W hz hW
        rw [hws] at HW1
        have HW2 : Hid (∀ W, Below w.heap.size w W → Calls Tryd.prog 15 #[.string s] W fun x w' => x = .returned (.bool false) ∧ Below w.heap.size w w') := HW1
        clear hr hn ht HNEW HW HW1 hws
        go_enter Tryd.func6, Tryd.ntmps6
        go_wp2_with (first
          | (go_at_call 14; refine HNO.out.mono ?_; rintro x w1 ⟨rfl, hb1⟩; have HB1 : Hid (Below w.heap.size w w1) := hb1; clear hb1)
          | (go_at_call 15; refine (HW2.out _ HB1.out).mono ?_; rintro x w2 ⟨rfl, hb2⟩; have HB2 : Hid (Below w.heap.size w w2) := hb2; clear hb2))
        go_ret
        exact ⟨by first | rfl | simp, HB2.out⟩
  | true =>
    have hwo : wordB o.data.toList = false := by
      rcases hn with g | g
      · rw [hr] at g; cases g
      · exact g
    have HYES : Hid (Calls Tryd.prog 14 #[.string s, .int .i64 e] w fun x w' => ∃ p, x = .returned (.tuple #[.pointer (some ⟨p, 0, none⟩), .int .i64 0]) ∧ Below w.heap.size w w') := by
      refine HNEW.out.mono ?_
      rintro x w' ⟨v, c, rfl, hb, ⟨h2, _⟩ | ⟨_, rfl, p, xs, d, rfl, _⟩⟩
      · rw [hr] at h2; cases h2
      · exact ⟨p, rfl, hb⟩
    simp only [Go.Proofs.YthfngcpcccbnpaaDoor.rightB, Bool.and_eq_true, decide_eq_true_eq] at hr
    obtain ⟨⟨hws, h1⟩, h2⟩ := hr
    have h1' : ¬ e < 0 := by omega
    have h2' : ¬ 3 < e := by omega
    have HW1 := fun W (hW : Below w.heap.size w W) => HW.out s W hz hW
    rw [hws] at HW1
    have HW2 : Hid (∀ W, Below w.heap.size w W → Calls Tryd.prog 15 #[.string s] W fun x w' => x = .returned (.bool true) ∧ Below w.heap.size w w') := HW1
    have HW3 := fun W (hW : Below w.heap.size w W) => HW.out o W ho hW
    rw [hwo] at HW3
    have HW4 : Hid (∀ W, Below w.heap.size w W → Calls Tryd.prog 15 #[.string o] W fun x w' => x = .returned (.bool false) ∧ Below w.heap.size w w') := HW3
    clear hn ht HNEW HW HW1 HW3 hws hwo h1 h2
    go_enter Tryd.func6, Tryd.ntmps6
    go_upto_region 3 with (first
      | (go_at_call 14; refine HYES.out.mono ?_; rintro x w1 ⟨p, rfl, hb1⟩; have HB1 : Hid (Below w.heap.size w w1) := hb1; clear hb1)
      | (go_at_call 15; refine (HW4.out _ HB1.out).mono ?_; rintro x w2 ⟨rfl, hb2⟩; have HB2 : Hid (Below w.heap.size w w2) := hb2; clear hb2))
    go_wp2_with (go_at_call 15; refine (HW2.out _ HB2.out).mono ?_; rintro x w3 ⟨rfl, hb3⟩; have HB3 : Hid (Below w.heap.size w w3) := hb3; clear hb3)
    go_ret
    exact ⟨by first | rfl | (simp; omega), HB3.out⟩
end Go.Proofs.YthfngcpcccbnpaaDoor

/- AbecedaryNear: the law's own walk. -/
namespace Go.Proofs.YthfngcpcccbnpaaDoor
open Go.RowKit Go.Shelf Go.Lib Nums Fm Pk Pm Fz Ed Lv
set_option maxRecDepth 100000

attribute [local go_sem ↓] exec_alloc_R exec_box_R exec_load_R exec_store_R
attribute [local go_sem] rV_cells
/-- Numbers that lie in a block. -/
def CellsN (w : World) (g : Nat) (ys : List Int) : Prop := ∀ (k : Nat) (r : Int), ys[k]? = some r → w.cell? ⟨g, k, none⟩ = some (.int .i32 r)
theorem CellsN.below {w w' : World} {g : Nat} {ys : List Int} (h : CellsN w g ys) (hg : g < w.heap.size) (hb : Below w.heap.size w w') : CellsN w' g ys := fun k r hk => (hb.cell (p := ⟨g, k, none⟩) hg).trans (h k r hk)
theorem CellsN.one {w w' : World} {g b : Nat} {ys : List Int} (h : CellsN w g ys) (hg : g ≠ b) (hb : One b w w') : CellsN w' g ys := fun k r hk => by
  have e := hb.block g hg
  have h1 := h k r hk
  simp only [World.cell?] at h1 ⊢
  rw [e]
  exact h1
set_option maxHeartbeats 8000000 in
theorem anear_yes (s o : ByteArray) (d : Nat) (w : World) (ht : Tabs w) (hz : s.size ≤ 9223372036854775807) (ho : o.size ≤ 9223372036854775807) (hr : Go.Proofs.YthfngcpcccbnpaaDoor.rightB s.data.toList (d : Int) = true) (hwo : wordB o.data.toList = true) :
    Calls Tryd.prog 6 #[.string s, .string o, .int .i64 d] w fun x w' => x = .returned (.bool true) ∧ Below w.heap.size w w' := by
  have HT : Hid (Tabs w) := ht
  have hr' := hr
  simp only [Go.Proofs.YthfngcpcccbnpaaDoor.rightB, Bool.and_eq_true, decide_eq_true_eq] at hr'
  obtain ⟨⟨hws, _⟩, hd3⟩ := hr'
  obtain ⟨xs, hxs, hx1, hx24⟩ := word_runesL hws
  obtain ⟨ys, hys, hy1, hy24⟩ := word_runesL hwo
  obtain ⟨N, hN⟩ : ∃ N, lv xs ys = N := ⟨_, rfl⟩
  have hN' : lv ys xs = N := by rw [lv_comm]; exact hN
  have hee : (entOf (s, 0)).1 = xs := by rw [entOf, hxs]; rfl
  have heo : (entOf (o, 1)).1 = ys := by rw [entOf, hys]; rfl
  have hds : dsE s.data.toList o.data.toList = some N := by
    have := ds_word (x := (s, 0)) (word := o) hws hys hy24
    rw [hee, hN] at this
    exact this
  have hNb : N ≤ 24 := by
    have := lv_bds xs ys
    omega
  have HNEW : Hid (Calls Tryd.prog 14 #[.string s, .int .i64 (d : Int)] w fun x w' => ∃ p, x = .returned (.tuple #[.pointer (some ⟨p, 0, none⟩), .int .i64 0]) ∧ LevAt w' p xs d ∧ Below w.heap.size w w') := by
    refine (New_any s d w ht hz).mono ?_
    rintro x w' ⟨v, c, rfl, hb, ⟨h2, _⟩ | ⟨_, rfl, p, xs', d', rfl, _, hx', hd', hl⟩⟩
    · rw [hr] at h2; cases h2
    · obtain rfl : xs' = xs := Option.some.inj (hx'.symm.trans hxs)
      obtain rfl : d = d' := by omega
      exact ⟨p, rfl, hl, hb⟩
  have HWO : Hid (∀ W, Below w.heap.size w W → Calls Tryd.prog 15 #[.string o] W fun x w' => x = .returned (.bool true) ∧ Below W.heap.size W w') := fun W hW => by
    refine (Word_any o W (HT.out.below hW) ho).mono ?_
    rintro x w' ⟨rfl, hw⟩
    exact ⟨by rw [hwo], by obtain ⟨n, rfl⟩ := hw; exact below_drewN (Below.refl _ _) n⟩
  have HDI : Hid (∀ W, Below w.heap.size w W → Calls Tryd.prog 16 #[.string s, .string o] W fun x w' => x = .returned (.tuple #[.int .i64 (N : Int), .bool true]) ∧ Below W.heap.size W w') := fun W hW => by
    have := Distance_is s o W (HT.out.below hW) hz ho
    rw [hds] at this
    exact this
  obtain ⟨M, hM⟩ : ∃ M, N + 1 = M := ⟨_, rfl⟩
  have hwM : IntKind.i64.wrap ((N : Int) + 1) = (M : Int) := by rw [IntKind.wrap_i64]; omega
  have HPA : Hid (∀ W, Below w.heap.size w W → Calls Tryd.prog 17 #[.string s, .string o] W fun x w' => ∃ ad cap, x = .returned (.tuple #[.slice ad M cap, .bool true]) ∧ Below W.heap.size W w') := fun W hW => by
    refine (Path_any s o W (HT.out.below hW) hz ho).mono ?_
    rintro x w' ⟨v, f, rfl, hb, ⟨_, _, h3⟩ | ⟨rfl, x1, y1, ls, _, _, h3, hS, _, hcnt, _⟩⟩
    · rw [hds] at h3; cases h3
    · rw [hds] at h3
      have h4 := Option.some.inj h3
      have hml : (ls.map textS).length = M := by rw [List.length_map, hcnt, ← h4, hM]
      obtain ⟨g, cap, rfl, _⟩ := hS.at (by rw [hml, ← hM]; omega)
      rw [hml]
      exact ⟨_, cap, rfl, hb⟩
  obtain ⟨ny, hny⟩ : ∃ ny, ys.length = ny := ⟨_, rfl⟩
  have HRU : Hid (∀ W, Below w.heap.size w W → Calls Tryd.prog 20 #[.string o] W fun x w' => ∃ g cap, x = .returned (.tuple #[.slice (some ⟨g, 0, none⟩) ny cap, .bool true]) ∧ W.heap.size ≤ g ∧ g < w'.heap.size ∧ CellsN w' g ys ∧ Below W.heap.size W w') := fun W hW => by
    refine (Runes_yes o ys W (HT.out.below hW) ho (room_of_runes hys (by omega)) hys).mono ?_
    rintro x w' ⟨v, rfl, hb, hm⟩
    have hra := hm.runesE
    obtain ⟨_, ⟨_, h0⟩ | ⟨g, cap, cur, rfl, hg, hcur, _⟩⟩ := hm
    · omega
    · rw [hny] at hra ⊢
      refine ⟨g, cap, rfl, hg, (Array.getElem?_eq_some_iff.1 hcur).1, fun k r hk => ?_, hb⟩
      obtain ⟨g', off, he, _, hc⟩ := hra.at hk
      cases he
      simpa using hc
  have hC := nw_ok hwo
  have HALL0 := fun W wb (hW : WkOn W wb [(o, 1)]) => All_told W wb [(o, 1)] hW s (d : Int) hz
  have hLe : allL [(o, 1)] s.data.toList (d : Int) = nearOf xs d [(o, 1)] := by rw [allL, if_pos hr, hxs]; rfl
  have hCe : allC s.data.toList (d : Int) = 0 := by rw [allC, if_pos hr]
  rw [hLe, hCe, near_one, heo, hN'] at HALL0
  have HWI0 := fun W (hW : Below w.heap.size w W) => Within_any s o (d : Int) W (HT.out.below hW) hz ho
  rw [hds] at HWI0
  simp only [wiB] at HWI0
  obtain ⟨hd1, hd2⟩ := dist_row (xs := xs) d ys hx24
  rw [hN'] at hd1 hd2
  have HBU : Hid (∀ W v, Below w.heap.size w W → PRow W v [(o, 1)] → Calls Tryd.prog 23 #[v] W fun e w' => ∃ base vs b, e = .returned (.tuple #[.agg #[.int .i64 base, vs], .int .i64 0]) ∧ BuildSays W w' [(o, 1)] base vs b) := fun W v hW hv => by
    have := Build_any W v [(o, 1)] hv (by simp) (fun x hx => by rw [List.mem_singleton] at hx; subst hx; exact ho) (HT.out.below hW)
    rw [hC] at this
    exact this
  have HNW : Hid (∀ W0 W base vs b, Below w.heap.size w W0 → BuildSays W0 W [(o, 1)] base vs b → ∀ V, Below W.heap.size W V → Calls Tryd.prog 24 #[.agg #[.int .i64 base, vs]] V fun e w' => ∃ wb, e = .returned (.tuple #[.pointer (some ⟨wb, 0, none⟩), .bool true]) ∧ WkOn w' wb [(o, 1)] ∧ Below W.heap.size W w') := fun W0 W base vs b h0 hS V hV => by
    refine (NewW_any _ V [(o, 1)] base vs b hC (hS.row.below hV) hS.mach (HT.out.below (h0.trans ((hS.bel.trans (hV.mono hS.bel.size)).mono h0.size)))).mono ?_
    rintro e w' ⟨wb, rfl, _, h1, h2⟩
    exact ⟨wb, rfl, h1, hV.trans (h2.mono hV.size)⟩
  by_cases hle : N ≤ d
  · have hlez : (N : Int) ≤ (d : Int) := by omega
    rw [if_pos hle] at HALL0
    rw [decide_eq_true hlez] at HWI0
    rw [decide_eq_true hle] at hd1
    have hd2 := hd2 hle
    have HALL : Hid (∀ W wb, WkOn W wb [(o, 1)] → Calls Tryd.prog 10 #[.pointer (some ⟨wb, 0, none⟩), .string s, .int .i64 (d : Int)] W fun x w' => ∃ ad cap, x = .returned (.tuple #[.slice ad 1 cap, .int .i64 0]) ∧ MRow w' (.slice ad 1 cap) [(o, 1, (N : Int))] ∧ Below W.heap.size W w') := HALL0
    have HWI : Hid (∀ W, Below w.heap.size w W → Calls Tryd.prog 18 #[.string s, .string o, .int .i64 (d : Int)] W fun x w' => x = .returned (.bool true) ∧ Below W.heap.size W w') := HWI0
    have HD1 : Hid (distB xs.length d (rowL xs d ys) = true) := hd1
    have HD2 : Hid (distN xs.length d (rowL xs d ys) = N) := hd2
    have HX24 : Hid (xs.length ≤ 24) := hx24
    have HNY : Hid (ys.length = ny) := hny
    have hnyb : ny ≤ 24 := by omega
    clear ht hr hwo hws hxs hys hN hN' hee heo hds hM hC hLe hCe HALL0 HWI0 hd1 hd2 hle hny hx1 hy1 hx24 hy24
    go_enter Tryd.func6, Tryd.ntmps6
    go_upto_region 4 with (first
      | (go_at_call 14; refine HNEW.out.mono ?_; rintro x w1 ⟨p, rfl, hl1, hb1⟩; have HB1 : Hid (Below w.heap.size w w1) := hb1; have HL1 : Hid (LevAt w1 p xs d) := hl1; clear hb1 hl1)
      | (go_at_call 15; refine (HWO.out _ HB1.out).mono ?_; rintro x w2 ⟨rfl, hb2⟩; have HB2 : Hid (Below w.heap.size w w2) := HB1.out.trans (hb2.mono HB1.out.size); have HL2 : Hid (LevAt w2 p xs d) := HL1.out.below hb2; clear hb2))
    go_upto_region 5 with (go_at_call 16; refine (HDI.out _ HB2.out).mono ?_; rintro x w3 ⟨rfl, hb3⟩; have HB3 : Hid (Below w.heap.size w w3) := HB2.out.trans (hb3.mono HB2.out.size); have HL3 : Hid (LevAt w3 p xs d) := HL2.out.below hb3; clear hb3)
    go_upto_region 6 with (go_at_call 17; refine (HPA.out _ HB3.out).mono ?_; rintro x w4 ⟨a4, c4, rfl, hb4⟩; have HB4 : Hid (Below w.heap.size w w4) := HB3.out.trans (hb4.mono HB3.out.size); have HL4 : Hid (LevAt w4 p xs d) := HL3.out.below hb4; clear hb4)
    go_upto_region 8 with (go_at_call 18; refine (HWI.out _ HB4.out).mono ?_; rintro x w5 ⟨rfl, hb5⟩; have HB5 : Hid (Below w.heap.size w w5) := HB4.out.trans (hb5.mono HB4.out.size); have HL5 : Hid (LevAt w5 p xs d) := HL4.out.below hb5; clear hb5)
    go_upto_region 9 with (go_at_call 19; refine (Start_any p _ _ _ HL5.out).mono ?_; rintro x w6 ⟨rfl, hb6⟩; rw [start_row])
    obtain ⟨w7, hst, hR7, hb7, hs7⟩ := keep_row w6 (rowL xs d []) (rowL_len _ _ _)
    rw [hst]
    have hb57 : Below w5.heap.size w5 w7 := hb6.trans (hb7.mono hb6.size)
    have HB7 : Hid (Below w.heap.size w w7) := HB5.out.trans (hb57.mono HB5.out.size)
    have HB57 : Hid (Below w5.heap.size w5 w7) := hb57
    have h56 : w5.heap.size ≤ w6.heap.size := hb6.size
    have HR7 : Hid (RAt w7 w6.heap.size (rowL xs d (ys.take 0))) := hR7
    have h67 : w6.heap.size < w7.heap.size := hs7
    have h06 : w.heap.size ≤ w6.heap.size := Nat.le_trans HB5.out.size hb6.size
    clear hst hR7 hb7 hs7 hb6 hb57
    go_upto_region 10 with (go_at_call 20; refine (HRU.out _ HB7.out).mono ?_; rintro x w8 ⟨g8, c8, rfl, hg7, hg8, hr8, hb8⟩)
    have HB58 : Hid (Below w5.heap.size w5 w8) := HB57.out.trans (hb8.mono HB57.out.size)
    have HR8 : Hid (RAt w8 w6.heap.size (rowL xs d (ys.take 0))) := HR7.out.below h67 hb8
    have HV8 : Hid (CellsN w8 g8 ys) := hr8
    have h68 : w6.heap.size < w8.heap.size := Nat.lt_of_lt_of_le h67 hb8.size
    have hg6 : g8 ≠ w6.heap.size := by omega
    clear hr8 hb8 hg7
    go_wp2_with fail
    go_loopw [98] (fun v wr => ∃ k : Nat, v = .int .i64 k ∧ k ≤ ny ∧ RAt wr w6.heap.size (rowL xs d (ys.take k)) ∧ CellsN wr g8 ys ∧ g8 < wr.heap.size ∧ Below w5.heap.size w5 wr) (fun v _ => ny - (intOf v).toNat)
    case atStart => exact ⟨0, rfl, Nat.zero_le _, HR8.out, HV8.out, hg8, HB58.out⟩
    case round =>
      clear HR8 HB58 HV8 hg8 h68 HR7 h67
      obtain ⟨k, rfl, hk, hA, hC8, hgr, hB⟩ := hrel
      have HA : Hid (RAt wr w6.heap.size (rowL xs d (ys.take k))) := hA
      have HB : Hid (Below w5.heap.size w5 wr) := hB
      have HC8 : Hid (CellsN wr g8 ys) := hC8
      have hwr : w6.heap.size < wr.heap.size := hA.lt
      have hld := loadR_at hA.range (rowL_len _ _ _)
      have HLR : Hid (LevAt wr p xs d) := HL5.out.below hB
      by_cases hk8 : k < ny
      · obtain ⟨r, hr⟩ : ∃ r, ys[k]? = some r := ⟨_, List.getElem?_eq_getElem (by have := HNY.out; omega)⟩
        have hcx := hC8 k r hr
        have hk8z : (k : Int) < (ny : Int) := by omega
        have HK8 : Hid (k < ny) := hk8
        have HTK : Hid (ys.take (k + 1) = ys.take k ++ [r]) := by unfold Hid; rw [List.take_add_one, hr]; rfl
        clear hA hB hr hC8
        go_wp2_with (go_at_call 21; refine (Step_any p xs d _ r _ HLR.out (rowL_len _ _ _)).mono ?_; rintro x w9 ⟨rfl, hb9⟩; rw [step_row d (ys.take k) r HX24.out, ← HTK.out])
        obtain ⟨w10, hst, hP, hO⟩ := put_row (rowL xs d (ys.take (k + 1))) (HA.out.below (by omega) hb9) (rowL_len _ _ _) (rowL_len _ _ _)
        rw [hst]
        have HB10 : Hid (Below w5.heap.size w5 w10) := hO.below (HB.out.trans (hb9.mono HB.out.size)) h56
        have HP10 : Hid (RAt w10 w6.heap.size (rowL xs d (ys.take (k + 1)))) := hP
        have HC10 : Hid (CellsN w10 g8 ys) := (HC8.out.below hgr hb9).one hg6 hO
        have hg10 : g8 < w10.heap.size := Nat.lt_of_lt_of_le (Nat.lt_of_lt_of_le hgr hb9.size) (by first | exact hO.size | exact Nat.le_of_eq hO.size.symm | exact Nat.le_of_eq hO.size)
        clear hst hP hO
        go_wp2_with fail
        go_roundw
        case rel => exact ⟨k + 1, by go_num, by have := HK8.out; omega, HP10.out, HC10.out, hg10, HB10.out⟩
        case measure => have := HK8.out; simp [intOf]; omega
      · obtain rfl : k = ny := by omega
        have hnlt : ¬ (k : Int) < (k : Int) := by omega
        rw [← HNY.out, List.take_length] at hld
        have HBR : Hid (Below w.heap.size w wr) := HB5.out.trans (hB.mono HB5.out.size)
        clear hA hB hC8 HA HB HC8 hgr
        go_upto_region 16 with (go_at_call 22; refine (Dist_any p xs d _ _ HLR.out (rowL_len _ _ _)).mono ?_; rintro x w9 ⟨rfl, hb9⟩; rw [HD1.out])
        have HB9 : Hid (Below w.heap.size w w9) := HBR.out.trans (hb9.mono HBR.out.size)
        clear hb9 HBR
        obtain ⟨W0, hW0⟩ : ∃ W0, w9.alloc (.cells #[.string o, .int .i64 1] 62) = W0 := ⟨_, rfl⟩
        obtain ⟨ab, hab⟩ : ∃ ab, w9.heap.size = ab := ⟨_, rfl⟩
        have HB0 : Hid (Below w.heap.size w W0) := by rw [← hW0]; exact HB9.out.alloc HB9.out.size _
        have HP0 : Hid (PRow W0 (.slice (some ⟨ab, 0, none⟩) 1 1) [(o, 1)]) := by rw [← hW0, ← hab]; exact one_nw w9 (o, 1) _ 1
        have HE : Hid (w9.alloc (.cells #[.string o, .int .i64 1] 62) = W0 ∧ w9.heap.size = ab) := ⟨hW0, hab⟩
        clear hW0 hab
        go_upto_region 20 with (first
          | (go_at_call 23; rw [HE.out.1, HE.out.2]; refine (HBU.out _ _ HB0.out HP0.out).mono ?_; rintro e w11 ⟨base, vs, b, rfl, hS⟩; obtain ⟨sd, sn, sc, hvs, hnb⟩ := StRow.form hS.row; subst hvs; have HS : Hid (BuildSays W0 w11 [(o, 1)] base (.slice sd sn sc) b) := hS; have HB11 : Hid (Below w.heap.size w w11) := HB0.out.trans (hS.bel.mono HB0.out.size); clear hS hnb)
          | (go_at_call 24; refine (HNW.out _ _ _ _ _ HB0.out HS.out _ ((Below.refl _ w11).alloc (Nat.le_refl _) _)).mono ?_; rintro e w12 ⟨wb, rfl, hon, hb12⟩; have HB12 : Hid (Below w.heap.size w w12) := HB11.out.trans (hb12.mono HB11.out.size); have HW12 : Hid (WkOn w12 wb [(o, 1)]) := hon; clear hb12 hon))
        go_upto_region 21 with (go_at_call 10; refine (HALL.out _ _ HW12.out).mono ?_; rintro x w13 ⟨a13, c13, rfl, hm13, hb13⟩)
        have HB13 : Hid (Below w.heap.size w w13) := HB12.out.trans (hb13.mono HB12.out.size)
        obtain ⟨gm, om, rfl, _, hcm⟩ := hm13.at (by simp)
        obtain ⟨m0, m1, m2⟩ := hcm 0 (o, 1, (N : Int)) rfl
        simp only [Nat.zero_mul, Nat.add_zero] at m0 m1 m2
        have s1 : (o.toList == o.toList) = true := by simp
        have s3 : ((N : Int) == (N : Int)) = true := by simp
        rw [HD2.out]
        clear hb13 hm13 hcm
        go_wp2_with fail
        go_ret
        exact ⟨by first | rfl | simp, HB13.out⟩
  · have hlez : ¬ (N : Int) ≤ (d : Int) := by omega
    rw [if_neg hle] at HALL0
    rw [decide_eq_false hlez] at HWI0
    rw [decide_eq_false hle] at hd1
    have HALL : Hid (∀ W wb, WkOn W wb [(o, 1)] → Calls Tryd.prog 10 #[.pointer (some ⟨wb, 0, none⟩), .string s, .int .i64 (d : Int)] W fun x w' => ∃ ad cap, x = .returned (.tuple #[.slice ad 0 cap, .int .i64 0]) ∧ MRow w' (.slice ad 0 cap) [] ∧ Below W.heap.size W w') := HALL0
    have HWI : Hid (∀ W, Below w.heap.size w W → Calls Tryd.prog 18 #[.string s, .string o, .int .i64 (d : Int)] W fun x w' => x = .returned (.bool false) ∧ Below W.heap.size W w') := HWI0
    have HD1 : Hid (distB xs.length d (rowL xs d ys) = false) := hd1
    have HX24 : Hid (xs.length ≤ 24) := hx24
    have HNY : Hid (ys.length = ny) := hny
    have hnyb : ny ≤ 24 := by omega
    clear ht hr hwo hws hxs hys hN hN' hee heo hds hM hC hLe hCe HALL0 HWI0 hd1 hd2 hle hny hx1 hy1 hx24 hy24
    go_enter Tryd.func6, Tryd.ntmps6
    go_upto_region 4 with (first
      | (go_at_call 14; refine HNEW.out.mono ?_; rintro x w1 ⟨p, rfl, hl1, hb1⟩; have HB1 : Hid (Below w.heap.size w w1) := hb1; have HL1 : Hid (LevAt w1 p xs d) := hl1; clear hb1 hl1)
      | (go_at_call 15; refine (HWO.out _ HB1.out).mono ?_; rintro x w2 ⟨rfl, hb2⟩; have HB2 : Hid (Below w.heap.size w w2) := HB1.out.trans (hb2.mono HB1.out.size); have HL2 : Hid (LevAt w2 p xs d) := HL1.out.below hb2; clear hb2))
    go_upto_region 5 with (go_at_call 16; refine (HDI.out _ HB2.out).mono ?_; rintro x w3 ⟨rfl, hb3⟩; have HB3 : Hid (Below w.heap.size w w3) := HB2.out.trans (hb3.mono HB2.out.size); have HL3 : Hid (LevAt w3 p xs d) := HL2.out.below hb3; clear hb3)
    go_upto_region 6 with (go_at_call 17; refine (HPA.out _ HB3.out).mono ?_; rintro x w4 ⟨a4, c4, rfl, hb4⟩; have HB4 : Hid (Below w.heap.size w w4) := HB3.out.trans (hb4.mono HB3.out.size); have HL4 : Hid (LevAt w4 p xs d) := HL3.out.below hb4; clear hb4)
    go_upto_region 8 with (go_at_call 18; refine (HWI.out _ HB4.out).mono ?_; rintro x w5 ⟨rfl, hb5⟩; have HB5 : Hid (Below w.heap.size w w5) := HB4.out.trans (hb5.mono HB4.out.size); have HL5 : Hid (LevAt w5 p xs d) := HL4.out.below hb5; clear hb5)
    go_upto_region 9 with (go_at_call 19; refine (Start_any p _ _ _ HL5.out).mono ?_; rintro x w6 ⟨rfl, hb6⟩; rw [start_row])
    obtain ⟨w7, hst, hR7, hb7, hs7⟩ := keep_row w6 (rowL xs d []) (rowL_len _ _ _)
    rw [hst]
    have hb57 : Below w5.heap.size w5 w7 := hb6.trans (hb7.mono hb6.size)
    have HB7 : Hid (Below w.heap.size w w7) := HB5.out.trans (hb57.mono HB5.out.size)
    have HB57 : Hid (Below w5.heap.size w5 w7) := hb57
    have h56 : w5.heap.size ≤ w6.heap.size := hb6.size
    have HR7 : Hid (RAt w7 w6.heap.size (rowL xs d (ys.take 0))) := hR7
    have h67 : w6.heap.size < w7.heap.size := hs7
    have h06 : w.heap.size ≤ w6.heap.size := Nat.le_trans HB5.out.size hb6.size
    clear hst hR7 hb7 hs7 hb6 hb57
    go_upto_region 10 with (go_at_call 20; refine (HRU.out _ HB7.out).mono ?_; rintro x w8 ⟨g8, c8, rfl, hg7, hg8, hr8, hb8⟩)
    have HB58 : Hid (Below w5.heap.size w5 w8) := HB57.out.trans (hb8.mono HB57.out.size)
    have HR8 : Hid (RAt w8 w6.heap.size (rowL xs d (ys.take 0))) := HR7.out.below h67 hb8
    have HV8 : Hid (CellsN w8 g8 ys) := hr8
    have h68 : w6.heap.size < w8.heap.size := Nat.lt_of_lt_of_le h67 hb8.size
    have hg6 : g8 ≠ w6.heap.size := by omega
    clear hr8 hb8 hg7
    go_wp2_with fail
    go_loopw [98] (fun v wr => ∃ k : Nat, v = .int .i64 k ∧ k ≤ ny ∧ RAt wr w6.heap.size (rowL xs d (ys.take k)) ∧ CellsN wr g8 ys ∧ g8 < wr.heap.size ∧ Below w5.heap.size w5 wr) (fun v _ => ny - (intOf v).toNat)
    case atStart => exact ⟨0, rfl, Nat.zero_le _, HR8.out, HV8.out, hg8, HB58.out⟩
    case round =>
      clear HR8 HB58 HV8 hg8 h68 HR7 h67
      obtain ⟨k, rfl, hk, hA, hC8, hgr, hB⟩ := hrel
      have HA : Hid (RAt wr w6.heap.size (rowL xs d (ys.take k))) := hA
      have HB : Hid (Below w5.heap.size w5 wr) := hB
      have HC8 : Hid (CellsN wr g8 ys) := hC8
      have hwr : w6.heap.size < wr.heap.size := hA.lt
      have hld := loadR_at hA.range (rowL_len _ _ _)
      have HLR : Hid (LevAt wr p xs d) := HL5.out.below hB
      by_cases hk8 : k < ny
      · obtain ⟨r, hr⟩ : ∃ r, ys[k]? = some r := ⟨_, List.getElem?_eq_getElem (by have := HNY.out; omega)⟩
        have hcx := hC8 k r hr
        have hk8z : (k : Int) < (ny : Int) := by omega
        have HK8 : Hid (k < ny) := hk8
        have HTK : Hid (ys.take (k + 1) = ys.take k ++ [r]) := by unfold Hid; rw [List.take_add_one, hr]; rfl
        clear hA hB hr hC8
        go_wp2_with (go_at_call 21; refine (Step_any p xs d _ r _ HLR.out (rowL_len _ _ _)).mono ?_; rintro x w9 ⟨rfl, hb9⟩; rw [step_row d (ys.take k) r HX24.out, ← HTK.out])
        obtain ⟨w10, hst, hP, hO⟩ := put_row (rowL xs d (ys.take (k + 1))) (HA.out.below (by omega) hb9) (rowL_len _ _ _) (rowL_len _ _ _)
        rw [hst]
        have HB10 : Hid (Below w5.heap.size w5 w10) := hO.below (HB.out.trans (hb9.mono HB.out.size)) h56
        have HP10 : Hid (RAt w10 w6.heap.size (rowL xs d (ys.take (k + 1)))) := hP
        have HC10 : Hid (CellsN w10 g8 ys) := (HC8.out.below hgr hb9).one hg6 hO
        have hg10 : g8 < w10.heap.size := Nat.lt_of_lt_of_le (Nat.lt_of_lt_of_le hgr hb9.size) (by first | exact hO.size | exact Nat.le_of_eq hO.size.symm | exact Nat.le_of_eq hO.size)
        clear hst hP hO
        go_wp2_with fail
        go_roundw
        case rel => exact ⟨k + 1, by go_num, by have := HK8.out; omega, HP10.out, HC10.out, hg10, HB10.out⟩
        case measure => have := HK8.out; simp [intOf]; omega
      · obtain rfl : k = ny := by omega
        have hnlt : ¬ (k : Int) < (k : Int) := by omega
        rw [← HNY.out, List.take_length] at hld
        have HBR : Hid (Below w.heap.size w wr) := HB5.out.trans (hB.mono HB5.out.size)
        clear hA hB hC8 HA HB HC8 hgr
        go_upto_region 16 with (go_at_call 22; refine (Dist_any p xs d _ _ HLR.out (rowL_len _ _ _)).mono ?_; rintro x w9 ⟨rfl, hb9⟩; rw [HD1.out])
        have HB9 : Hid (Below w.heap.size w w9) := HBR.out.trans (hb9.mono HBR.out.size)
        clear hb9 HBR
        obtain ⟨W0, hW0⟩ : ∃ W0, w9.alloc (.cells #[.string o, .int .i64 1] 62) = W0 := ⟨_, rfl⟩
        obtain ⟨ab, hab⟩ : ∃ ab, w9.heap.size = ab := ⟨_, rfl⟩
        have HB0 : Hid (Below w.heap.size w W0) := by rw [← hW0]; exact HB9.out.alloc HB9.out.size _
        have HP0 : Hid (PRow W0 (.slice (some ⟨ab, 0, none⟩) 1 1) [(o, 1)]) := by rw [← hW0, ← hab]; exact one_nw w9 (o, 1) _ 1
        have HE : Hid (w9.alloc (.cells #[.string o, .int .i64 1] 62) = W0 ∧ w9.heap.size = ab) := ⟨hW0, hab⟩
        clear hW0 hab
        go_upto_region 20 with (first
          | (go_at_call 23; rw [HE.out.1, HE.out.2]; refine (HBU.out _ _ HB0.out HP0.out).mono ?_; rintro e w11 ⟨base, vs, b, rfl, hS⟩; obtain ⟨sd, sn, sc, hvs, hnb⟩ := StRow.form hS.row; subst hvs; have HS : Hid (BuildSays W0 w11 [(o, 1)] base (.slice sd sn sc) b) := hS; have HB11 : Hid (Below w.heap.size w w11) := HB0.out.trans (hS.bel.mono HB0.out.size); clear hS hnb)
          | (go_at_call 24; refine (HNW.out _ _ _ _ _ HB0.out HS.out _ ((Below.refl _ w11).alloc (Nat.le_refl _) _)).mono ?_; rintro e w12 ⟨wb, rfl, hon, hb12⟩; have HB12 : Hid (Below w.heap.size w w12) := HB11.out.trans (hb12.mono HB11.out.size); have HW12 : Hid (WkOn w12 wb [(o, 1)]) := hon; clear hb12 hon))
        go_upto_region 21 with (go_at_call 10; refine (HALL.out _ _ HW12.out).mono ?_; rintro x w13 ⟨a13, c13, rfl, hm13, hb13⟩)
        have HB13 : Hid (Below w.heap.size w w13) := HB12.out.trans (hb13.mono HB12.out.size)
        clear hb13 hm13
        go_wp2_with fail
        go_ret
        exact ⟨by first | rfl | simp, HB13.out⟩
theorem anear_walk (s o : ByteArray) (e : Int) (w : World) (ht : Tabs w) (hz : s.size ≤ maxLen) (ho : o.size ≤ maxLen) {p : Prop} (_ : p) :
    Calls Tryd.prog 6 #[.string s, .string o, .int .i64 e] w fun x w' => x = .returned (.bool true) ∧ Below w.heap.size w w' := by
  have hz : s.size ≤ 9223372036854775807 := by unfold maxLen at hz; omega
  have ho : o.size ≤ 9223372036854775807 := by unfold maxLen at ho; omega
  cases hr : Go.Proofs.YthfngcpcccbnpaaDoor.rightB s.data.toList e with
  | false => exact anear_not s o e w ht hz ho (.inl hr)
  | true =>
    cases hw : wordB o.data.toList with
    | false => exact anear_not s o e w ht hz ho (.inr hw)
    | true =>
      have h := hr
      simp only [Go.Proofs.YthfngcpcccbnpaaDoor.rightB, Bool.and_eq_true, decide_eq_true_eq] at h
      obtain ⟨d, rfl⟩ : ∃ d : Nat, e = (d : Int) := ⟨e.toNat, by omega⟩
      exact anear_yes s o d w ht hz ho hr hw
end Go.Proofs.YthfngcpcccbnpaaDoor
