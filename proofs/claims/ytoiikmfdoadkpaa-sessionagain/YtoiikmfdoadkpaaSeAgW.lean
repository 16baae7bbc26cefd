/- SessionAgain. -/
import Derived.Test.YtoiikmfdoadkpaaSeAllW
import Derived.Test.YtoiikmfdoadkpaaSeLoad2
namespace Go.Proofs.Ytoiikmfdoadkpaa
open Go.RowKit Go.Lib
set_option maxRecDepth 100000
namespace Se
/-- Rows that calls have made. -/
def Fine (l : List Rw) : Prop := l.length ≤ 4096 ∧ ∀ x ∈ l, x = r0 ∨ 0 < x.1
theorem Fine.right {l : List Rw} (h : Fine l) : rightB l = true := by
  unfold rightB
  rw [decide_eq_true h.1, Bool.true_and, Bool.not_eq_true', List.any_eq_false]
  intro x hx
  rcases h.2 x hx with rfl | h
  · decide
  · unfold badB
    rw [decide_eq_false (by omega)]
    simp
theorem fine_nil : Fine [] := ⟨by simp, fun x hx => absurd hx List.not_mem_nil⟩
theorem Fine.step {l : List Rw} (h : Fine l) (o : Oo) : Fine (doL l o) := by
  unfold doL
  split
  · unfold openL
    split
    · refine ⟨by simp; omega, fun x hx => ?_⟩
      rcases List.mem_append.1 hx with hx | hx
      · exact h.2 x hx
      · exact .inl (List.mem_singleton.1 hx)
    · exact h
  · split
    · exact h
    · split
      · unfold keepL
        split
        · next hk =>
          unfold keepB at hk
          rw [Bool.and_eq_true, decide_eq_true_eq] at hk
          refine ⟨by rw [List.length_set]; exact h.1, fun x hx => ?_⟩
          rcases List.mem_or_eq_of_mem_set hx with hx | rfl
          · exact h.2 x hx
          · refine .inr (Int.lt_of_le_of_lt ?_ hk.2)
            unfold el
            rw [List.getD_eq_getElem?_getD]
            cases hg : l[(o.2.1 - 1).toNat]? with
            | none => exact Int.le_refl _
            | some y =>
              rcases h.2 y (List.mem_of_getElem? hg) with rfl | hy
              · exact Int.le_refl _
              · exact Int.le_of_lt hy
        · exact h
      · exact h
theorem Fine.plays (os : List Oo) : ∀ (s : St), Fine s.1 → Fine (plays os s).1 := by
  induction os with
  | nil => intro s h; exact h
  | cons o r ih => intro s h; exact ih _ (h.step o)
/-- Its rows are told, and loaded. -/
theorem play_load {q B p : Nat} {w0 wr : World} {s : St} (h : Play q B p w0 s wr) (hr : rightB s.1 = true) (hl : s.1.length ≤ 1099511627775) :
    Calls Try.prog 14 #[.pointer (some ⟨p, 0, none⟩)] wr fun e w3 => ∃ v3, e = .returned v3 ∧ Calls Try.prog 13 #[v3] w3 fun e w4 => ∃ p2 B2, e = .returned (.tuple #[.pointer (some ⟨p2, 0, none⟩), .bool true]) ∧ Hid (Play q B2 p2 w0 s w4 ∧ p2 ≠ q ∧ w0.heap.size ≤ B2) := by
  obtain ⟨v, x, S, hx, hb⟩ := h
  refine (Rows_any B wr p v s.1 S.tab (by omega)).mono ?_
  rintro e w3 ⟨v3, rfl, hG, hb3⟩
  have z := hb.size
  have z3 := hb3.size
  have S3 := S.below hb3
  refine ⟨v3, rfl, (Load_any w3.heap.size w3 s.1 v3 hG.reads (by omega)).mono ?_⟩
  rintro e w4 (⟨_, p2, v2, rfl, hT, hb4⟩ | ⟨hf, _⟩)
  · have hx4 := heap_own hb4 (by have := lt_of_heap hx; omega) (heap_own hb3 (lt_of_heap hx) hx)
    refine ⟨p2, w3.heap.size, rfl, ⟨v2, x, ⟨hT, S3.ref.below hb4, fun g hg hk => ?_⟩, hx4, (hb.trans (hb3.mono (by omega))).trans (hb4.mono (by omega))⟩, ?_, by omega⟩
    · have h1 := TF.low hT hk
      have h2 := S3.ref.2.lt hg
      omega
    · have h1 := hT.low
      have h2 := lt_of_heap hx
      omega
  · rw [hr] at hf; cases hf
theorem play_len2 (os ms : List Oo) (hn : os.length ≤ 5000) (k : Nat) (h : k ≤ 5000) : (plays (ms.take k) (plays os s0)).1.length ≤ 10000 ∧ (plays (ms.take k) (plays os s0)).2.1 ≤ 10000 ∧ (plays (ms.take k) (plays os s0)).2.2.length ≤ 10000 := by
  have h1 := plays_len (ms.take k) (plays os s0)
  have h3 := plays_len os s0
  have h2 : (ms.take k).length ≤ k := by rw [List.length_take]; omega
  simp only [s0, List.length_nil] at h1 h3 ⊢
  omega
attribute [local go_sem ↓] exec_load_T exec_store_T exec_load_O exec_store_O
set_option maxHeartbeats 8000000 in
theorem again_walk (v v1 : Value) (w : World) (os : List Oo) (hR : GRow w.heap.size 6 w v (os.map cellsO)) (hl : os.length ≤ 4398046511104) (ms : List Oo) (hM : GRow w.heap.size 6 w v1 (ms.map cellsO)) (hml : ms.length ≤ 4398046511104) : Calls Try.prog 5 #[v, v1] w fun e w' => e = .returned (.bool true) ∧ Below w.heap.size w w' := by
  have HA := fun W => alive_any W
  obtain ⟨a0, c0, rfl⟩ := hR.shape
  obtain ⟨a1, c1, rfl⟩ := hM.shape
  obtain ⟨n, hn⟩ : ∃ n, os.length = n := ⟨_, rfl⟩
  have HN : Hid (os.length = n) := hn
  obtain ⟨m, hm⟩ : ∃ m, ms.length = m := ⟨_, rfl⟩
  have HM : Hid (ms.length = m) := hm
  rw [List.length_map, hn] at hR ⊢
  rw [List.length_map, hm] at hM ⊢
  rw [hn] at hl
  rw [hm] at hml
  have HR : Hid (GRow w.heap.size 6 w (.slice a0 n c0) (os.map cellsO)) := hR
  have HRM : Hid (GRow w.heap.size 6 w (.slice a1 m c1) (ms.map cellsO)) := hM
  obtain ⟨B, HB, HNW⟩ := new_B w
  clear hR hn hM hm
  by_cases hbig : 5000 < n ∨ 5000 < m
  · have hz : ((5000 : Int) < (n : Int)) ∨ ¬ ((5000 : Int) < (n : Int)) ∧ (5000 : Int) < (m : Int) := by omega
    clear hbig
    rcases hz with hz | ⟨hz, hz2⟩
    · go_enter Try.func5, Try.ntmps5
      go_wp2_with (first
        | (go_at_call 9; go_loud (refine HNW.mono ?_; rintro e w1 ⟨rfl, hT1, hb1⟩; have HB1 : Hid (Below w.heap.size w w1) := (show Below w.heap.size w w1 by rw [HB.out]; exact hb1); clear hT1 hb1 HNW))
        | (go_at_call 10; go_loud (refine (HA _).mono ?_; rintro e w3 ⟨rfl, hb3⟩)))
      go_ret
      exact ⟨rfl, HB1.out.trans (hb3.mono HB1.out.size)⟩
    · go_enter Try.func5, Try.ntmps5
      go_wp2_with (first
        | (go_at_call 9; go_loud (refine HNW.mono ?_; rintro e w1 ⟨rfl, hT1, hb1⟩; have HB1 : Hid (Below w.heap.size w w1) := (show Below w.heap.size w w1 by rw [HB.out]; exact hb1); clear hT1 hb1 HNW))
        | (go_at_call 10; go_loud (refine (HA _).mono ?_; rintro e w3 ⟨rfl, hb3⟩)))
      go_ret
      exact ⟨rfl, HB1.out.trans (hb3.mono HB1.out.size)⟩
  have hlen : n ≤ 5000 := by omega
  have hlen2 : m ≤ 5000 := by omega
  clear hbig
  have hz : ¬ (5000 : Int) < (n : Int) := by omega
  have hz2 : ¬ (5000 : Int) < (m : Int) := by omega
  go_enter Try.func5, Try.ntmps5
  go_wp2_with (go_at_call 9; go_loud (refine HNW.mono ?_; rintro e w1 ⟨rfl, hT1, hb1⟩; obtain ⟨w2, hw2, HP0, hne⟩ := play_begin hT1 (show Below w.heap.size w w1 by rw [HB.out]; exact hb1); obtain ⟨q, hq⟩ : ∃ q, w1.heap.size = q := ⟨_, rfl⟩; rw [hq] at HP0 hne; have HQ : Hid (B ≠ q ∧ w.heap.size ≤ B ∧ w.heap.size ≤ q) := ⟨hne, by rw [HB.out]; exact Nat.le_refl _, by rw [← hq]; exact hb1.size⟩; unfold zT at hw2; clear hT1 hb1 hne HNW))
  clear hq hw2
  go_loopg [8, 9, 10, 37] n (fun g _ _ _ s37 wr => ∃ (k : Nat), s37 = .int .i64 k ∧ k ≤ n ∧ n - k ≤ g ∧ Hid (Play q B B w (plays (os.take k) s0) wr))
  case atStart => exact ⟨0, rfl, Nat.zero_le _, by omega, HP0.out⟩
  case round =>
    obtain ⟨k, rfl, hk, hg, HP⟩ := hrel
    by_cases hlt : k < n
    · have hltz : (k : Int) < (n : Int) := by omega
      have HLT : Hid (k < n) := hlt
      obtain ⟨o, ho⟩ : ∃ o, os[k]? = some o := ⟨os[k]'(by have := HN.out; omega), List.getElem?_eq_getElem _⟩
      obtain ⟨pl1, pl2, pl3⟩ := play_len os k (by omega)
      have hlike := (plays_like (os.take k) s0 like_nil).does o
      obtain ⟨i, ad, n3, c3, W1, hs1, hldT, hldO, HC⟩ := play_round HP.out HQ.out.1 HQ.out.2.1 HQ.out.2.2 o (by omega) (by omega) (by omega)
      rw [hlike.1] at HC
      rw [← stp_step ho s0] at HC
      obtain ⟨g1, off, rfl, hg1, hc⟩ := grow_open (HR.out.below HP.out.below) (by rw [List.length_map, HN.out]; omega)
      have hxm : (os.map cellsO)[k]? = some (cellsO o) := by rw [List.getElem?_map, ho]; rfl
      have hld : loadO Try.prog (.pointer (some ⟨g1, off + k * 6, none⟩)) wr = .ok (valO o) wr := loadO_at (fun j u hj => hc k j _ u hxm hj)
      clear hc hxm pl1 pl2 pl3 hlike ho
      unfold valO at hs1 hldO hld HC
      unfold zO at hs1
      unfold valT zT at *
      go_wp2_with (go_at_call 11; go_loud (refine HC.mono ?_; rintro e w3 ⟨i4, ad4, n4, c4, W4, W5, rfl, h1, h2, h3, HPN⟩))
      go_roundg (n - (k + 1))
      case measure => have := HLT.out; omega
      case rel => exact ⟨k + 1, by go_num, HLT.out, Nat.le_refl _, HPN.out⟩
    · have hltz : ¬ (k : Int) < (n : Int) := by omega
      have hkn : k = n := by omega
      subst hkn
      have hall : os.take k = os := List.take_of_length_le (by have := HN.out; omega)
      rw [hall] at HP
      have hpl := plays_len os s0
      simp only [s0, List.length_nil] at hpl
      rw [HN.out] at hpl
      have HRL := play_load HP.out (Fine.plays os s0 fine_nil).right (by simp only [s0]; omega)
      clear hpl hall
      go_wp2_with (first
        | (go_at_call 14; go_loud (refine HRL.mono ?_; rintro e w3 ⟨v3, rfl, HLD⟩; clear HRL))
        | (go_at_call 13; go_loud (refine HLD.mono ?_; rintro e w4 ⟨p2, B2, rfl, HP4⟩; clear HLD)))
      go_loopg [14, 15, 16, 62] m (fun g _ _ _ s62 wr => ∃ (k : Nat), s62 = .int .i64 k ∧ k ≤ m ∧ m - k ≤ g ∧ Hid (Play q B2 p2 w (plays (ms.take k) (plays os s0)) wr))
      case atStart => exact ⟨0, rfl, Nat.zero_le _, by omega, HP4.out.1⟩
      case round =>
        obtain ⟨j, rfl, hj, hgj, HP2⟩ := hrel
        by_cases hlt2 : j < m
        · have hltz2 : (j : Int) < (m : Int) := by omega
          have HLT2 : Hid (j < m) := hlt2
          obtain ⟨o, ho⟩ : ∃ o, ms[j]? = some o := ⟨ms[j]'(by have := HM.out; omega), List.getElem?_eq_getElem _⟩
          obtain ⟨pl1, pl2, pl3⟩ := play_len2 os ms (by have := HN.out; omega) j (by omega)
          have hlike := (plays_like (ms.take j) (plays os s0) (plays_like os s0 like_nil)).does o
          obtain ⟨i, ad, n3, c3, W1, hs1, hldT, hldO, HC⟩ := play_round HP2.out HP4.out.2.1 HP4.out.2.2 HQ.out.2.2 o (by omega) (by omega) (by omega)
          rw [hlike.1] at HC
          rw [← stp_step ho (plays os s0)] at HC
          obtain ⟨g1, off, rfl, hg1, hc⟩ := grow_open (HRM.out.below HP2.out.below) (by rw [List.length_map, HM.out]; omega)
          have hxm : (ms.map cellsO)[j]? = some (cellsO o) := by rw [List.getElem?_map, ho]; rfl
          have hld : loadO Try.prog (.pointer (some ⟨g1, off + j * 6, none⟩)) wr = .ok (valO o) wr := loadO_at (fun i u hi => hc j i _ u hxm hi)
          clear hc hxm pl1 pl2 pl3 hlike ho
          unfold valO at hs1 hldO hld HC
          unfold zO at hs1
          unfold valT zT at *
          go_wp2_with (go_at_call 11; go_loud (refine HC.mono ?_; rintro e w3 ⟨i4, ad4, n4, c4, W4, W5, rfl, h1, h2, h3, HPN⟩))
          go_roundg (m - (j + 1))
          case measure => have := HLT2.out; omega
          case rel => exact ⟨j + 1, by go_num, HLT2.out, Nat.le_refl _, HPN.out⟩
        · have hltz2 : ¬ (j : Int) < (m : Int) := by omega
          have hjm : j = m := by omega
          subst hjm
          have hallm : ms.take j = ms := List.take_of_length_le (by have := HM.out; omega)
          obtain ⟨pl1, pl2, pl3⟩ := play_len2 os ms (by have := HN.out; omega) j hlen2
          have hlike := plays_like (ms.take j) (plays os s0) (plays_like os s0 like_nil)
          have HEND : Hid (∀ w3, Below wr.heap.size wr w3 → ∃ x : Tb, loadT Try.prog (.pointer (some ⟨q, 0, none⟩)) w3 = .ok (valT x) w3 ∧ Calls Try.prog 12 #[.pointer (some ⟨p2, 0, none⟩), valT x] w3 fun e w' => e = .returned (.bool true) ∧ Below w.heap.size w w') := fun w3 hb3 => by
            obtain ⟨v, x, S, hx, hb⟩ := HP2.out
            refine ⟨x, own_loadT (heap_own hb3 (lt_of_heap hx) hx), (stands_any B2 w3 p2 v _ x _ _ (S.below hb3) hlike (by omega) (by omega)).mono ?_⟩
            rintro e w4 ⟨rfl, hb4⟩
            have z := hb.size
            have z3 := hb3.size
            exact ⟨rfl, (hb.trans (hb3.mono (by omega))).trans (hb4.mono (by omega))⟩
          clear pl1 pl2 pl3 hlike hallm
          go_wp2_with (first
            | (go_at_call 10; go_loud (refine (HA _).mono ?_; rintro e w3 ⟨rfl, hb3⟩; obtain ⟨⟨i5, ad5, n5, c5⟩, hld5, HS5⟩ := HEND.out w3 hb3; unfold valT at hld5 HS5; clear hb3 HEND))
            | (go_at_call 12; go_loud (refine HS5.mono ?_; rintro e w4 ⟨rfl, hb4⟩)))
          go_ret
          exact ⟨rfl, hb4⟩
end Se
end Go.Proofs.Ytoiikmfdoadkpaa
