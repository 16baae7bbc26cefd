/- letters.Text: the writing of a row of runes, or none. -/
import Derived.Test.YtjfbildaaobfpaaDoorAppend
import Derived.Laws.BytesArg
namespace Go.Proofs.YtjfbildaaobfpaaDoor
open Go.RowKit Nums
set_option maxRecDepth 100000

/-- A slice of numbers that lies in memory: nothing is said of who made it. -/
def Row (w : World) (v : Value) (xs : List Int) : Prop :=
  ∃ ao cap, v = .slice ao xs.length cap ∧ (0 < xs.length → ∃ b off, ao = some ⟨b, off, none⟩ ∧ ∀ i, i < xs.length → w.cell? ⟨b, off + i, none⟩ = some (.int .i32 (xs.getD i 0)))

theorem Bytes.back {B : Nat} {w : World} {v : Value} {xs : List Int} (h : Bytes B w v xs) : (convert 57 9 v).run Tryd.prog w = .ok (.string (strOfNums xs)) w := by
  obtain ⟨hl, hn | ⟨g, cap, cur, rfl, hb, hg, h1, h2, h3, h4⟩⟩ := h
  · obtain ⟨rfl, h0⟩ := hn
    have e : xs = [] := List.length_eq_zero_iff.1 h0
    subst e
    exact run_convert_bytes_nil w 57 5 Tryd.underlying57 Tryd.underlying5 0 0 9 Tryd.underlying9
  · refine run_convert_bytes_arg w 57 5 Tryd.underlying57 Tryd.underlying5 g 0 xs.length cap xs rfl (fun i hi => ?_) 9 Tryd.underlying9
    have hc : cur[i]? = some (.int .u8 (xs.getD i 0)) := by
      have e : (cur.toList.take (xs.length * 1))[i]? = (xs.map (Value.int .u8))[i]? := by rw [h4]
      rw [List.getElem?_take, if_pos (by omega)] at e
      rw [← Array.getElem?_toList, e, List.getElem?_map, List.getElem?_eq_getElem hi]
      simp [List.getD_eq_getElem?_getD, List.getElem?_eq_getElem hi]
    simp only [World.cell?, hg, Nat.zero_add]
    simpa using hc

def allR (xs : List Int) : Bool := xs.all isR
def textS (xs : List Int) : ByteArray := if allR xs = true then strOfNums (xs.flatMap wrI) else ByteArray.empty

theorem flat_len (xs : List Int) : (xs.flatMap wrI).length ≤ 4 * xs.length := by
  induction xs with
  | nil => simp
  | cons x r ih => have := wrI_len x; rw [List.flatMap_cons, List.length_append, List.length_cons]; omega
theorem take_next (xs : List Int) (k : Nat) (h : k < xs.length) : xs.take (k + 1) = xs.take k ++ [xs.getD k 0] := by
  rw [List.take_succ_eq_append_getElem h]; simp [List.getD_eq_getElem?_getD, List.getElem?_eq_getElem h]
theorem text_no {xs : List Int} {k : Nat} (h : k < xs.length) (hr : isR (xs.getD k 0) = false) : allR xs = false := by
  have hm : xs.getD k 0 ∈ xs := by simp [List.getD_eq_getElem?_getD, List.getElem?_eq_getElem h]
  cases e : allR xs
  · rfl
  · have := List.all_eq_true.1 e _ hm; rw [hr] at this; cases this
theorem isR_bd {r : Int} (h : isR r = true) : 0 ≤ r ∧ r < 1114112 := by
  have := of_decide_eq_true h; omega

set_option maxHeartbeats 2000000 in
theorem Text_any (v : Value) (xs : List Int) (w : World) (ht : Tabs w) (hrow : Row w v xs) (hl : xs.length * 4 ≤ 140737488355328) :
    Calls Tryd.prog 36 #[v] w fun e w' => e = .returned (.tuple #[.string (textS xs), .bool (allR xs)]) ∧ Below w.heap.size w w' := by
  obtain ⟨i0, hi, hz0, hz1, hz2⟩ := info_parts infoByte
  obtain ⟨ao, cap, rfl, hcells⟩ := hrow
  have HC : Hid (0 < xs.length → ∃ b off, ao = some ⟨b, off, none⟩ ∧ ∀ i, i < xs.length → w.cell? ⟨b, off + i, none⟩ = some (.int .i32 (xs.getD i 0))) := hcells
  clear hcells
  go_enter Tryd.func36, Tryd.ntmps36
  go_wp2_with (at_make; refine wpList_make_own _ rfl _ _ 57 rfl w.heap.size 5 i0 (.int .u8 0) 1 Tryd.underlying57 hi hz0 hz1 _ _ _ xs.length rfl rfl (by omega) (by rw [hz2]; omega) (by unfold maxLen; omega) (Nat.le_refl _) ?_; intro w0 hown0 hgrow0)
  have hb0 : Below w.heap.size w w0 := (Below.refl _ _).grown hgrow0 (Nat.le_refl _) (fun k hk => by cases hk)
  have HO0 : Hid (Bytes w.heap.size w0 (.slice (some ⟨w.heap.size, 0, none⟩) 0 xs.length) []) := hown0
  clear hown0 hgrow0
  go_loopw [4, 12] (fun vb i wr => ∃ k : Nat, k ≤ xs.length ∧ i = .int .i64 k ∧ Bytes w.heap.size wr vb ((xs.take k).flatMap wrI) ∧ allR (xs.take k) = true ∧ Below w.heap.size w wr)
    (fun _ i _ => xs.length - (intOf i).toNat)
  case atStart => exact ⟨0, Nat.zero_le _, rfl, HO0.out, rfl, hb0⟩
  case round =>
    obtain ⟨k, hk, rfl, hown, hall, hbel⟩ := hrel
    have HA : Hid (allR (xs.take k) = true) := hall
    clear hall
    have htr : Tabs wr := ht.below hbel
    by_cases hlt : k < xs.length
    · obtain ⟨b, off, rfl, hc⟩ := HC.out (by omega)
      have hck : wr.cell? ⟨b, off + k, none⟩ = some (.int .i32 (xs.getD k 0)) := by
        rw [hbel.cell (p := ⟨b, off + k, none⟩) (lt_of_cell (hc k hlt))]; exact hc k hlt
      clear hc HC HO0
      have hnx := take_next xs k hlt
      generalize hx : xs.getD k 0 = x at *
      have HX : Hid (xs.getD k 0 = x) := hx
      have HN : Hid (xs.take (k + 1) = xs.take k ++ [x]) := hnx
      clear hnx hx
      cases hr : isR x
      · have HR : Hid (isR x = false) := hr
        clear hr
        have HF : Hid (allR xs = false) := text_no hlt (by rw [HX.out]; exact HR.out)
        go_wp2_with (go_at_call 41; refine (isRune_any _ _).mono ?_; rintro e w' ⟨rfl, rfl⟩; rw [HR.out])
        go_ret2
        refine ⟨?_, hbel⟩
        rw [HF.out, show textS xs = ByteArray.empty by unfold textS; rw [HF.out]; rfl]
        rfl
      · have HR : Hid (isR x = true) := hr
        clear hr
        have hbd := isR_bd HR.out
        have hfl := flat_len (xs.take k)
        rw [List.length_take] at hfl
        go_wp2_with (first
          | (go_at_call 41; refine (isRune_any _ _).mono ?_; rintro e w' ⟨rfl, rfl⟩; rw [HR.out])
          | (go_at_call 42; refine (appendRune_any w.heap.size _ ((xs.take k).flatMap wrI) x _ htr hown hbel.size (by omega) hbd.1 hbd.2).mono ?_; rintro e w1 ⟨v1, rfl, hown1, hb1⟩))
        go_roundw
        case rel =>
          refine ⟨k + 1, by omega, by go_num, ?_, ?_, hbel.trans hb1⟩
          · rw [HN.out, List.flatMap_append]; simpa using hown1
          · rw [HN.out]; have := HA.out; unfold allR at *; rw [List.all_append, this]; simp [HR.out]
        case measure => simp [intOf]; omega
    · obtain rfl : k = xs.length := by omega
      have hfull : xs.take xs.length = xs := List.take_length
      have HO : Hid (Bytes w.heap.size wr u4 (xs.flatMap wrI)) := by rw [hfull] at hown; exact hown
      have HF : Hid (allR xs = true) := by have := HA.out; rw [hfull] at this; exact this
      have hconv := HO.out.back
      clear hfull hown HA
      go_wp2
      go_ret2
      refine ⟨?_, hbel⟩
      rw [HF.out, show textS xs = strOfNums (xs.flatMap wrI) by unfold textS; rw [HF.out]; rfl]
      rfl
end Go.Proofs.YtjfbildaaobfpaaDoor
