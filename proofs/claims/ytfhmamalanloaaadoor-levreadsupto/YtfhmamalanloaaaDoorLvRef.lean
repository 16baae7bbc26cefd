/- The law's made; the reference's At, Row, Step. -/
import Derived.Test.YtfhmamalanloaaaDoorLvAlive
namespace Go.Proofs.YtfhmamalanloaaaDoor
open Go.RowKit Nums Ed Lv
set_option maxRecDepth 100000

/-- Runes that are read, within their capacity. -/
def RunesC (E : Nat) (w : World) (v : Value) (xs : List Int) : Prop := RunesAt E w v xs ∧ ∀ ad n cap, v = .slice ad n cap → n ≤ cap
theorem Made.runesC {B : Nat} {w : World} {v : Value} {xs : List Int} (h : Made B w v xs) : RunesC w.heap.size w v xs := by
  refine ⟨h.runes, ?_⟩
  obtain ⟨hl, hn | ⟨g, cap, cur, rfl, hb, hg, h1, h2, h3, h4⟩⟩ := h
  · obtain ⟨rfl, h0⟩ := hn
    intro ad n cap e
    cases e
    omega
  · intro ad n cap e
    cases e
    exact h1
theorem RunesC.below {w w' : World} {v : Value} {xs : List Int} (h : RunesC w.heap.size w v xs) (hb : Below w.heap.size w w') : RunesC w'.heap.size w' v xs := ⟨(h.1.below hb).mono hb.size, h.2⟩
/-- What made has told. -/
def MadeSays (w0 w' : World) (l : List UInt8) (e : Int) (v u : Value) (f : Bool) : Prop :=
  Acc w0 w' ∧ ((rightB l e = false ∧ f = false ∧ v = .pointer none) ∨ (rightB l e = true ∧ f = true ∧ ∃ p xs d, v = .pointer (some ⟨p, 0, none⟩) ∧ rs l = some xs ∧ e = (d : Nat) ∧ LevAt w' p xs d ∧ RunesC w'.heap.size w' u xs))
theorem RefRunes_up (s : ByteArray) (w : World) (hm : s.size ≤ 1000000000) :
    Calls Tryd.prog 26 #[.string s] w fun e w' => ∃ v, e = .returned (.tuple #[v, .bool (rs s.data.toList).isSome]) ∧ Below w.heap.size w w' ∧ RunesC w'.heap.size w' v (rl s.data.toList) := by
  refine (RefRunes_any s w (by omega) (room_of_length (by rw [size_length]; omega))).mono ?_
  rintro e w' ⟨v, hb, ⟨hn, rfl, rfl⟩ | ⟨xs, hs, rfl, hm⟩⟩
  · exact ⟨_, by rw [hn]; rfl, hb, by unfold rl; rw [hn]; exact ⟨⟨none, 0, rfl, fun h => by simp at h⟩, fun ad n cap e => by cases e; exact Nat.le_refl _⟩⟩
  · exact ⟨_, by rw [hs]; rfl, hb, by rw [rl_some hs]; exact hm.runesC⟩
set_option maxHeartbeats 1000000 in
theorem made_acc {w0 w : World} (h : Acc w0 w) (s : ByteArray) (e : Int) (hm : s.size ≤ 1000000000) :
    Calls Tryd.prog 14 #[.string s, .int .i64 e] w fun x w' => ∃ v u f, x = .returned (.tuple #[v, u, .bool f]) ∧ Below w.heap.size w w' ∧ MadeSays w0 w' s.data.toList e v u f := by
  go_enter Tryd.func14, Tryd.ntmps14
  go_upto_region 2 with (go_at_call 11; refine (New_any s e _ h.tabs (by omega)).mono ?_; rintro x w1 ⟨v, c, rfl, hb1, hcase⟩)
  have h1 := h.step hb1
  go_upto_region 3 with (go_at_call 26; refine (RefRunes_up s _ hm).mono ?_; rintro x w2 ⟨u, rfl, hb2, hru⟩)
  have h2 := h1.step hb2
  have hb12 : Below w.heap.size w w2 := hb1.trans (hb2.mono hb1.size)
  rcases hcase with ⟨hr, rfl, rfl⟩ | ⟨hr, rfl, p, xs, d, rfl, _, hx, hd, hl⟩
  · go_wp2_with fail
    go_returns
    exact ⟨_, _, _, rfl, hb12, h2, .inl ⟨hr, rfl, rfl⟩⟩
  · have hl2 := hl.below hb2
    rw [rl_some hx] at hru
    clear hl
    go_wp2_with fail
    go_returns
    exact ⟨_, _, _, rfl, hb12, h2, .inr ⟨hr, rfl, p, xs, d, rfl, hx, hd, hl2, hru⟩⟩
attribute [local go_sem ↓] exec_alloc_R exec_box_R exec_load_R exec_store_R run_min2
attribute [local go_sem] rV_cells
theorem getD_byte {s : List Nat} (h : ∀ x ∈ s, x < 256) (j : Nat) : s.getD j 0 < 256 := by
  rw [List.getD_eq_getElem?_getD]
  cases e : s[j]? with
  | none => decide
  | some x => exact h x (List.mem_of_getElem? e)
set_option maxHeartbeats 1000000 in
theorem At_any (s : List Nat) (j d : Nat) (w : World) (hs : s.length = 25) (hsb : ∀ x ∈ s, x < 256) (hj : j < 25) (hd : d ≤ 3) :
    Calls Tryd.prog 21 #[rV s, .int .i64 (j : Int), .int .i64 (d : Int)] w fun e w' => e = .returned (.int .i64 (min (s.getD j 0) (d + 1) : Nat)) ∧ Below w.heap.size w w' := by
  obtain ⟨w2, hw2⟩ : ∃ w2, w.alloc (.cells (rC s) 32) = w2 := ⟨_, rfl⟩
  have A2 : RAt w2 w.heap.size s := hw2 ▸ RAt.new w _
  have B2 : Hid (Below w.heap.size w w2) := hw2 ▸ (Below.refl _ w).alloc (Nat.le_refl _) _
  have HW : Hid (w.alloc (.cells (rC s) 32) = w2) := hw2
  have hc := A2.cell (i := j) (by omega)
  obtain ⟨y, hy⟩ : ∃ y, s.getD j 0 = y := ⟨_, rfl⟩
  have HM : Hid (min2 (y : Int) ((d : Int) + 1) = (min (s.getD j 0) (d + 1) : Nat)) := by unfold Hid min2; rw [hy]; split <;> omega
  have hy2 : (y : Int) < 256 := by have := getD_byte hsb j; omega
  rw [hy] at hc
  have hj2 : (j : Int) < 25 := by omega
  have hwd : IntKind.i64.wrap ((d : Int) + 1) = (d : Int) + 1 := by rw [IntKind.wrap_i64]; omega
  clear hw2 A2 hy hsb
  go_enter Tryd.func21, Tryd.ntmps21
  go_upto_region 1 with fail
  rw [HW.out]
  go_wp2_with fail
  go_ret
  exact ⟨ret_int HM.out, B2.out⟩
theorem RunesAt.take {E : Nat} {w : World} {ad : Option Addr} {n cap : Nat} {xs : List Int} (h : RunesAt E w (.slice ad n cap) xs) (j : Nat) (hj : j ≤ xs.length) : RunesAt E w (.slice ad j cap) (xs.take j) := by
  obtain ⟨ad', cap', e, hc⟩ := h
  cases e
  refine ⟨ad, cap, by rw [List.length_take, Nat.min_eq_left hj], fun h0 => ?_⟩
  rw [List.length_take] at h0
  obtain ⟨g, off, e, hg, hc⟩ := hc (by omega)
  exact ⟨g, off, e, hg, fun i x hi => hc i x (by rw [List.getElem?_take] at hi; split at hi; exact hi; cases hi)⟩
set_option maxHeartbeats 1000000 in
theorem RefRow_any (vx vt : Value) (xs t : List Int) (d : Nat) (w : World) (hxc : RunesC w.heap.size w vx xs) (ht : RunesAt w.heap.size w vt t) (hxl : xs.length ≤ 24) (htl : t.length ≤ 2000) (hd : d ≤ 3) :
    Calls Tryd.prog 16 #[vx, .int .i64 (d : Int), vt] w fun e w' => e = .returned (rV (rowL xs d t)) ∧ Below w.heap.size w w' := by
  obtain ⟨hx, hcap⟩ := hxc
  obtain ⟨adx, capx, rfl⟩ := hx.form
  obtain ⟨adt, capt, rfl⟩ := ht.form
  have hcx := hcap _ _ _ rfl
  have HX : Hid (RunesAt w.heap.size w (.slice adx xs.length capx) xs) := hx
  have HT : Hid (RunesAt w.heap.size w (.slice adt t.length capt) t) := ht
  obtain ⟨w2, hw2⟩ : ∃ w2, (w.alloc (.cells (rC zeros) 32)).alloc (.cells (rC zeros) 32) = w2 := ⟨_, rfl⟩
  have A2 : Hid (RAt w2 w.heap.size zeros) := hw2 ▸ (RAt.new w _).old _
  have C2 : Hid (RAt w2 (w.heap.size + 1) zeros) := by
    have := RAt.new (w.alloc (.cells (rC zeros) 32)) zeros
    rw [alloc_sizeR] at this
    exact hw2 ▸ this
  have B2 : Hid (Below w.heap.size w w2) := hw2 ▸ ((Below.refl _ w).alloc (Nat.le_refl _) _).alloc (by simp) _
  have HW : Hid ((w.alloc (.cells (rC zeros) 32)).alloc (.cells (rC zeros) 32) = w2) := hw2
  have hwd : IntKind.i64.wrap ((d : Int) + 1) = (d : Int) + 1 := by rw [IntKind.wrap_i64]; omega
  clear hw2 hx ht hcap
  go_enter Tryd.func16, Tryd.ntmps16
  go_wp2_with fail
  rw [HW.out]
  clear HW
  go_loopw [8] (fun v wr => ∃ k : Nat, v = .int .i64 k ∧ k ≤ xs.length + 1 ∧ RAt wr w.heap.size zeros ∧ RAt wr (w.heap.size + 1) (rowK xs d t k) ∧ Below w.heap.size w wr) (fun v _ => xs.length + 1 - (intOf v).toNat)
  case atStart => exact ⟨0, rfl, by omega, A2.out, by rw [show rowK xs d t 0 = zeros by rw [zeros_mk, rowK]; exact mk_congr fun j _ => by simp]; exact C2.out, B2.out⟩
  case round =>
    clear A2 C2 B2
    obtain ⟨k, rfl, hk, hA, hC, hB⟩ := hrel
    have HA : Hid (RAt wr w.heap.size zeros) := hA
    have HC : Hid (RAt wr (w.heap.size + 1) (rowK xs d t k)) := hC
    have HB : Hid (Below w.heap.size w wr) := hB
    have hwr : w.heap.size + 1 < wr.heap.size := hC.lt
    by_cases hk8 : k ≤ xs.length
    · have HFAR := Far_any (.slice adt t.length capt) (.slice adx k capx) t (xs.take k) wr ((HT.out.below hB).mono (by omega)) (((HX.out.take k hk8).below hB).mono (by omega)) htl (by rw [List.length_take]; omega)
      obtain ⟨y, hy⟩ : ∃ y, lv t (xs.take k) = y := ⟨_, rfl⟩
      have HU : Hid (min2 (y : Int) ((d : Int) + 1) % 256 = (rowF xs d t k : Nat)) := by unfold Hid min2 rowF; rw [hy]; split <;> omega
      rw [hy] at HFAR
      clear hA hC hB hy
      have hkc : k ≤ capx := by omega
      go_wp2_with (go_at_call 20; refine HFAR.mono ?_; rintro e w3 ⟨rfl, hb3⟩; have hC3 := (HC.out.below (by omega) hb3).cell (i := k) (by rw [rowK_len]; omega); have hF3 := (HC.out.below (by omega) hb3).frozen k)
      rw [HU.out]
      go_roundw
      case rel =>
        refine ⟨k + 1, by go_num, by omega, (HA.out.below (by omega) hb3).off (by omega), ?_, (HB.out.trans (hb3.mono (by omega))).setCell (by show w.heap.size ≤ w.heap.size + 1; omega) _⟩
        rw [← rowK_next _ _ _ (by omega)]
        exact (HC.out.below (by omega) hb3).set
      case measure => simp [intOf]; omega
    · obtain rfl : k = xs.length + 1 := by omega
      have hld := loadR_at hC.range (rowK_len _ _ _ _)
      obtain ⟨w5, hst, hP, hO⟩ := put_row (rowK xs d t (xs.length + 1)) hA zeros_len (rowK_len _ _ _ _)
      have HBS : Hid (Below w.heap.size w w5) := hO.below hB (Nat.le_refl _)
      have HST : Hid (RAt w5 w.heap.size (rowK xs d t (xs.length + 1))) := hP
      have hkk : ¬ ((xs.length + 1 : Nat) : Int) ≤ (xs.length : Int) := by omega
      clear hA hC hB HA HC HB hP hO
      go_wp2_with fail
      exact ret_row Tryd.results16 rfl (rowK_len _ _ _ _) HST.out rfl ⟨rfl, HBS.out⟩
theorem RefRow_acc {w0 w : World} (h : Acc w0 w) (vx vt : Value) (xs t : List Int) (d : Nat) (hx : RunesC w.heap.size w vx xs) (ht : RunesAt w.heap.size w vt t) (hxl : xs.length ≤ 24) (htl : t.length ≤ 2000) (hd : d ≤ 3) :
    Calls Tryd.prog 16 #[vx, .int .i64 (d : Int), vt] w fun e w' => e = .returned (rV (rowL xs d t)) ∧ Acc w0 w' := by
  refine (RefRow_any vx vt xs t d w hx ht hxl htl hd).mono ?_
  rintro e w' ⟨rfl, hb⟩
  exact ⟨rfl, h.step hb⟩
end Go.Proofs.YtfhmamalanloaaaDoor
