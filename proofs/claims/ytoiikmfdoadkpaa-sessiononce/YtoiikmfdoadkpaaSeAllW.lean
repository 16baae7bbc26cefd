/- SessionAll. -/
import Derived.Test.YtoiikmfdoadkpaaSePlay
import Derived.Test.YtoiikmfdoadkpaaSeAlive
namespace Go.Proofs.Ytoiikmfdoadkpaa
open Go.RowKit Go.Lib
set_option maxRecDepth 100000
namespace Se
def s0 : St := ([], 0, [])
theorem play_len (os : List Oo) (k : Nat) (h : k ≤ 5000) : (plays (os.take k) s0).1.length ≤ 5000 ∧ (plays (os.take k) s0).2.1 ≤ 5000 ∧ (plays (os.take k) s0).2.2.length ≤ 5000 := by
  have h1 := plays_len (os.take k) s0
  have h2 : (os.take k).length ≤ k := by rw [List.length_take]; omega
  simp only [s0, List.length_nil] at h1 ⊢
  omega
attribute [local go_sem ↓] exec_load_T exec_store_T exec_load_O exec_store_O
/-- The document's table begins. -/
theorem play_begin {B : Nat} {w0 w1 : World} (hT : TAt B w1 B (.slice none 0 0) []) (hb : Below w0.heap.size w0 w1) : ∃ w2, w1.alloc zT = w2 ∧ Hid (Play w1.heap.size B B w0 s0 w2) ∧ B ≠ w1.heap.size := by
  obtain ⟨w2, hw2⟩ : ∃ w2, w1.alloc zT = w2 := ⟨_, rfl⟩
  have hb2 : Below w1.heap.size w1 w2 := by rw [← hw2]; exact (Below.refl _ _).alloc (Nat.le_refl _) _
  have hn2 : w2.heap[w1.heap.size]? = some zT := by rw [← hw2]; exact alloc_newM _ _
  have := hT.lt
  exact ⟨w2, hw2, ⟨_, (0, none, 0, 0), ⟨hT.below hb2, kat_nil _, fun g hg => by simp [tvs, Value.ownBlock] at hg⟩, hn2, hb.trans (hb2.mono hb.size)⟩, by omega⟩
set_option maxHeartbeats 4000000 in
theorem all_walk (v : Value) (w : World) (os : List Oo) (hR : GRow w.heap.size 6 w v (os.map cellsO)) (hl : os.length ≤ 4398046511104) : Calls Try.prog 3 #[v] w fun e w' => e = .returned (.bool true) ∧ Below w.heap.size w w' := by
  have HA := fun W => alive_any W
  obtain ⟨a0, c0, rfl⟩ := hR.shape
  obtain ⟨n, hn⟩ : ∃ n, os.length = n := ⟨_, rfl⟩
  have HN : Hid (os.length = n) := hn
  rw [List.length_map, hn] at hR ⊢
  rw [hn] at hl
  have HR : Hid (GRow w.heap.size 6 w (.slice a0 n c0) (os.map cellsO)) := hR
  obtain ⟨B, HB, HNW⟩ := new_B w
  clear hR hn
  by_cases hlen : n ≤ 5000
  · have hz : ¬ (5000 : Int) < (n : Int) := by omega
    go_enter Try.func3, Try.ntmps3
    go_wp2_with (go_at_call 9; go_loud (refine HNW.mono ?_; rintro e w1 ⟨rfl, hT1, hb1⟩; obtain ⟨w2, hw2, HP0, hne⟩ := play_begin hT1 (show Below w.heap.size w w1 by rw [HB.out]; exact hb1); obtain ⟨q, hq⟩ : ∃ q, w1.heap.size = q := ⟨_, rfl⟩; rw [hq] at HP0 hne; have HQ : Hid (B ≠ q ∧ w.heap.size ≤ B ∧ w.heap.size ≤ q) := ⟨hne, by rw [HB.out]; exact Nat.le_refl _, by rw [← hq]; exact hb1.size⟩; unfold zT at hw2; clear hT1 hb1 hne HNW))
    clear hq hw2
    go_loopg [6, 7, 8, 24] n (fun g _ _ _ s24 wr => ∃ (k : Nat), s24 = .int .i64 k ∧ k ≤ n ∧ n - k ≤ g ∧ Hid (Play q B B w (plays (os.take k) s0) wr))
    case atStart => exact ⟨0, rfl, Nat.zero_le _, by omega, HP0.out⟩
    case round =>
      obtain ⟨k, rfl, hk, hg, HP⟩ := hrel
      by_cases hlt : k < n
      · have hltz : (k : Int) < (n : Int) := by omega
        have HLT : Hid (k < n) := hlt
        obtain ⟨o, ho⟩ : ∃ o, os[k]? = some o := ⟨os[k]'(by have := HN.out; omega), List.getElem?_eq_getElem _⟩
        obtain ⟨pl1, pl2, pl3⟩ := play_len os k (by omega)
        have hlike := (plays_like (os.take k) s0 like_nil).does o
        obtain ⟨i, ad, n3, c3, W1, hs1, hldT, hldO, HC⟩ := play_round HP.out HQ.out.1 HQ.out.2.1 HQ.out.2.2 o (by omega) (by omega) (by omega)
        rw [hlike.1] at HC
        rw [← stp_step ho s0] at HC
        obtain ⟨g1, off, rfl, hg1, hc⟩ := grow_open (HR.out.below HP.out.below) (by rw [List.length_map, HN.out]; omega)
        have hxm : (os.map cellsO)[k]? = some (cellsO o) := by rw [List.getElem?_map, ho]; rfl
        have hld : loadO Try.prog (.pointer (some ⟨g1, off + k * 6, none⟩)) wr = .ok (valO o) wr := loadO_at (fun j u hj => hc k j _ u hxm hj)
        clear hc hxm pl1 pl2 pl3 hlike ho
        unfold valO at hs1 hldO hld HC
        unfold zO at hs1
        unfold valT zT at *
        go_wp2_with (go_at_call 11; go_loud (refine HC.mono ?_; rintro e w3 ⟨i4, ad4, n4, c4, W4, W5, rfl, h1, h2, h3, HPN⟩))
        go_roundg (n - (k + 1))
        case measure => have := HLT.out; omega
        case rel => exact ⟨k + 1, by go_num, HLT.out, Nat.le_refl _, HPN.out⟩
      · have hltz : ¬ (k : Int) < (n : Int) := by omega
        have hkn : k = n := by omega
        subst hkn
        obtain ⟨pl1, pl2, pl3⟩ := play_len os k hlen
        have hlike := plays_like (os.take k) s0 like_nil
        have HEND : Hid (∀ w3, Below wr.heap.size wr w3 → ∃ x : Tb, loadT Try.prog (.pointer (some ⟨q, 0, none⟩)) w3 = .ok (valT x) w3 ∧ Calls Try.prog 12 #[.pointer (some ⟨B, 0, none⟩), valT x] w3 fun e w' => e = .returned (.bool true) ∧ Below w.heap.size w w') := fun w3 hb3 => by
          obtain ⟨v, x, S, hx, hb⟩ := HP.out
          refine ⟨x, own_loadT (heap_own hb3 (lt_of_heap hx) hx), (stands_any B w3 B v _ x _ _ (S.below hb3) hlike (by omega) (by omega)).mono ?_⟩
          rintro e w4 ⟨rfl, hb4⟩
          have z := hb.size
          have z3 := hb3.size
          exact ⟨rfl, (hb.trans (hb3.mono (by omega))).trans (hb4.mono (by omega))⟩
        clear pl1 pl2 pl3 hlike
        go_wp2_with (first
          | (go_at_call 10; go_loud (refine (HA _).mono ?_; rintro e w3 ⟨rfl, hb3⟩; obtain ⟨⟨i5, ad5, n5, c5⟩, hld5, HS5⟩ := HEND.out w3 hb3; unfold valT at hld5 HS5; clear hb3 HEND))
          | (go_at_call 12; go_loud (refine HS5.mono ?_; rintro e w4 ⟨rfl, hb4⟩)))
        go_ret
        exact ⟨rfl, hb4⟩
  · have hz : (5000 : Int) < (n : Int) := by omega
    go_enter Try.func3, Try.ntmps3
    go_wp2_with (first
      | (go_at_call 9; go_loud (refine HNW.mono ?_; rintro e w1 ⟨rfl, hT1, hb1⟩; have HB1 : Hid (Below w.heap.size w w1) := (show Below w.heap.size w w1 by rw [HB.out]; exact hb1); clear hT1 hb1 HNW))
      | (go_at_call 10; go_loud (refine (HA _).mono ?_; rintro e w3 ⟨rfl, hb3⟩)))
    go_ret
    exact ⟨rfl, HB1.out.trans (hb3.mono HB1.out.size)⟩
end Se
end Go.Proofs.Ytoiikmfdoadkpaa
