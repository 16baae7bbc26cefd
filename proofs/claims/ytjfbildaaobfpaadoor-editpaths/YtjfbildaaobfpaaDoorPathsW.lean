/- EditPaths: the walk. -/
import Derived.Test.YtjfbildaaobfpaaDoorPtPath
import Derived.Test.YtjfbildaaobfpaaDoorOnceW
namespace Go.Proofs.YtjfbildaaobfpaaDoor
open Go.RowKit Nums Ed
set_option maxRecDepth 100000

theorem Path_acc {w0 w : World} (h : Acc w0 w) (a b : ByteArray) (ha : a.size ≤ 9223372036854775807) (hb : b.size ≤ 9223372036854775807) :
    Calls Tryd.prog 18 #[.string a, .string b] w fun e w' => ∃ v f, e = .returned (.tuple #[v, .bool f]) ∧ Acc w0 w' ∧ PathSays w w' a.data.toList b.data.toList v f := by
  refine (Path_any a b w h.tabs ha hb).mono ?_
  rintro e w' ⟨v, f, rfl, hs⟩
  exact ⟨v, f, rfl, h.step hs.1, hs⟩
theorem runes_line {w0 w : World} (h : Acc w0 w) {l : List Int} (hr : l.all isR = true) (hl : l.length ≤ 4000) :
    Calls Tryd.prog 16 #[.string (textS l)] w fun e w' => ∃ v, e = .returned (.tuple #[v, .bool true]) ∧ Acc w0 w' ∧ Below w.heap.size w w' ∧ RunesC w'.heap.size w' v l := by
  refine (RefRunes_accC h (textS l) (by have := textS_size hr; omega)).mono ?_
  rintro e w' ⟨v, rfl, h1, h2, h3⟩
  rw [rl_some (rs_textS hr)] at h3
  exact ⟨v, by rw [rs_textS hr]; rfl, h1, h2, h3⟩
theorem str_ne (a : ByteArray) : (!(a.toList == a.toList)) = false := by simp

set_option maxHeartbeats 1000000 in
theorem paths_walk (a b : ByteArray) (w : World) (ht : Tabs w) (ha : a.size ≤ 9223372036854775807) (hb : b.size ≤ 9223372036854775807) :
    Calls Tryd.prog 10 #[.string a, .string b] w fun e w' => e = .returned (.bool true) ∧ Below w.heap.size w w' := by
  have h0 := Acc.refl ht
  by_cases c1 : a.size ≤ 300
  · by_cases c2 : b.size ≤ 300
    · have HD1 := fun {w0 w : World} (h : Acc w0 w) => refDistance_acc h a b (by omega) (by omega)
      go_enter Tryd.func10, Tryd.ntmps10
      go_upto_region 4 with (go_at_call 14; refine (HD1 (by assumption)).mono ?_; rintro e w1 ⟨rfl, h1⟩)
      go_upto_region 5 with (go_at_call 18; refine (Path_acc (by assumption) a b ha hb).mono ?_; rintro e w2 ⟨v, f, rfl, h2, hsays⟩)
      obtain ⟨_, ⟨rfl, rfl, hno⟩ | ⟨rfl, x, y, ls, hx, hy, hds, hS, hway, hcnt, hok⟩⟩ := hsays
      · rw [hno]
        clear HD1
        simp only [dN, dF]
        go_wp2_with (go_at_call 12; refine (alive_acc (by assumption)).mono ?_; rintro e w3 ⟨rfl, h3⟩)
        go_ret
        exact ⟨by simp, h3.bel⟩
      · rw [hds]
        clear HD1
        simp only [dN, dF]
        have hsm := ds_small hds
        obtain ⟨n, hn⟩ : ∃ n, n = lv x y := ⟨_, rfl⟩
        rw [← hn] at hcnt hsm ⊢
        have HOK : Hid (∀ l ∈ ls, l.all isR = true ∧ l.length ≤ 4000) := hok
        have HWAY : Hid (Way ls x y) := hway
        have hml : (ls.map textS).length = n + 1 := by rw [List.length_map]; exact hcnt
        obtain ⟨g, cap, hv, hcells⟩ := hS.at (by rw [hml]; omega)
        rw [hml] at hv
        subst hv
        have hg2 : g < w2.heap.size := (hS.block rfl).2.1
        have HC : Hid (∀ (i : Nat) (l : List Int), ls[i]? = some l → w2.cell? ⟨g, i, none⟩ = some (.string (textS l))) := fun i l hl => hcells i (textS l) (by rw [List.getElem?_map, hl]; rfl)
        have HLEN : Hid (ls.length = n + 1) := hcnt
        have HA : Hid (w2.cell? ⟨g, 0, none⟩ = some (.string a)) := by
          have := HC.out 0 x hway.first
          rw [textS_of hx] at this; exact this
        have HB : Hid (w2.cell? ⟨g, n, none⟩ = some (.string b)) := by
          have h5 := hway.last
          rw [hcnt, show n + 1 - 1 = n by omega] at h5
          have := HC.out n y h5
          rw [textS_of hy] at this; exact this
        have hwn : IntKind.i64.wrap ((n : Int) + 1) = (n : Int) + 1 := by rw [IntKind.wrap_i64]; omega
        clear hS hway hcnt hok hcells hml hn hds hx hy
        go_upto_region 7 with (go_at_call 12; refine (alive_accB (by assumption)).mono ?_; rintro e w3 ⟨rfl, h3, B3⟩)
        have hcA : w3.cell? ⟨g, 0, none⟩ = some (.string a) := (B3.cell (p := ⟨g, 0, none⟩) hg2).trans HA.out
        have hcB : w3.cell? ⟨g, n, none⟩ = some (.string b) := (B3.cell (p := ⟨g, n, none⟩) hg2).trans HB.out
        have eqA := str_ne a
        have eqB := str_ne b
        go_wp2
        have hg3 : g < w3.heap.size := Nat.lt_of_lt_of_le hg2 B3.size
        have HC3 : Hid (∀ (i : Nat) (l : List Int), ls[i]? = some l → w3.cell? ⟨g, i, none⟩ = some (.string (textS l))) := fun i l hl => (B3.cell (p := ⟨g, i, none⟩) hg2).trans (HC.out i l hl)
        clear hcA hcB eqA eqB
        go_loopw [9] (fun i wr => ∃ k Q : Nat, Q = k + 1 ∧ k ≤ n ∧ i = .int .i64 (Q : Int) ∧ Acc w wr ∧ Below w3.heap.size w3 wr) (fun i _ => n + 1 - (intOf i).toNat)
        case atStart => exact ⟨0, 1, rfl, Nat.zero_le _, rfl, h3, Below.refl _ _⟩
        case round =>
          obtain ⟨k, Q, hQ, hk, rfl, hacc, hbel⟩ := hrel
          have HQ : Hid (Q = k + 1) := hQ
          clear hQ
          by_cases hlt : k < n
          · obtain ⟨l1, hl1⟩ : ∃ l, ls[k]? = some l := ⟨_, List.getElem?_eq_getElem (by rw [HLEN.out]; omega)⟩
            obtain ⟨l2, hl2⟩ : ∃ l, ls[k + 1]? = some l := ⟨_, List.getElem?_eq_getElem (by rw [HLEN.out]; omega)⟩
            have hc1 : wr.cell? ⟨g, k, none⟩ = some (.string (textS l1)) := (hbel.cell (p := ⟨g, k, none⟩) hg3).trans (HC3.out k l1 hl1)
            have hc2 : wr.cell? ⟨g, Q, none⟩ = some (.string (textS l2)) := by rw [HQ.out]; exact (hbel.cell (p := ⟨g, k + 1, none⟩) hg3).trans (HC3.out (k + 1) l2 hl2)
            have HO : Hid (lv l1 l2 = 1) := HWAY.out.once k l1 l2 hl1 hl2
            have ok1 := HOK.out l1 (List.mem_of_getElem? hl1)
            have ok2 := HOK.out l2 (List.mem_of_getElem? hl2)
            have HR1 := fun {w0 w : World} (h : Acc w0 w) => runes_line h ok1.1 ok1.2
            have HR2 := fun {w0 w : World} (h : Acc w0 w) => runes_line h ok2.1 ok2.2
            have hn1 : l1.length ≤ 4000 := ok1.2
            have hn2 : l2.length ≤ 4000 := ok2.2
            generalize textS l1 = s1 at *
            generalize textS l2 = s2 at *
            clear hl1 hl2 ok1 ok2
            have hwq : IntKind.i64.wrap ((Q : Int) - 1) = (k : Int) := by rw [IntKind.wrap_i64]; have := HQ.out; omega
            have hwQ : IntKind.i64.wrap ((Q : Int) + 1) = (Q : Int) + 1 := by rw [IntKind.wrap_i64]; have := HQ.out; omega
            have hqn : (Q : Int) ≤ (n : Int) := by have := HQ.out; omega
            have hqn1 : (Q : Int) < (n : Int) + 1 := by omega
            have hkn1 : (k : Int) < (n : Int) + 1 := by omega
            have hgr : g < wr.heap.size := Nat.lt_of_lt_of_le hg3 hbel.size
            go_upto_region 15 with (go_at_call 16; refine (HR1 (by assumption)).mono ?_; rintro e w5 ⟨v5, rfl, h5, B5, r5⟩)
            have hc25 : w5.cell? ⟨g, Q, none⟩ = some (.string s2) := (B5.cell (p := ⟨g, Q, none⟩) hgr).trans hc2
            go_upto_region 16 with (go_at_call 16; refine (HR2 (by assumption)).mono ?_; rintro e w6 ⟨v6, rfl, h6, B6, r6⟩)
            have HA5 : Hid (RunesC w6.heap.size w6 v5 l1) := r5.below B6
            have HA6 : Hid (RunesC w6.heap.size w6 v6 l2) := r6
            have HB6 : Hid (Below w3.heap.size w3 w6) := hbel.trans ((B5.trans (B6.mono B5.size)).mono hbel.size)
            clear hc25 HR1 HR2 r5 r6
            go_wp2_with (go_at_call 17; refine (Once_any _ _ l1 l2 _ HA5.out HA6.out (by omega) (by omega)).mono ?_; rintro e w7 ⟨rfl, B7⟩; rw [HO.out])
            go_roundw
            case rel => exact ⟨k + 1, Q + 1, by rw [HQ.out], by omega, by go_num, h6.step B7, HB6.out.trans (B7.mono HB6.out.size)⟩
            case measure => simp [intOf]; have := HQ.out; omega
          · obtain rfl : k = n := by omega
            have hqn : ¬ (Q : Int) ≤ (k : Int) := by have := HQ.out; omega
            go_wp2
            go_ret
            exact ⟨rfl, hacc.bel⟩
    · go_enter Tryd.func10, Tryd.ntmps10
      go_wp2_with (go_at_call 12; refine (alive_acc (by assumption)).mono ?_; rintro e w1 ⟨rfl, h1⟩)
      go_ret
      exact ⟨rfl, h1.bel⟩
  · go_enter Tryd.func10, Tryd.ntmps10
    go_wp2_with (go_at_call 12; refine (alive_acc (by assumption)).mono ?_; rintro e w1 ⟨rfl, h1⟩)
    go_ret
    exact ⟨rfl, h1.bel⟩
end Go.Proofs.YtjfbildaaobfpaaDoor
