/- Texts that were written apart, joined. -/
import Derived.Test.YthfngcpcccbnpaaDoorL0
import Derived.Test.YthfngcpcccbnpaaDoorG7
import Derived.Test.YthfngcpcccbnpaaDoorG8
import Derived.Deep.RegionHeld3
import Derived.Deep.DrawnRows
import Derived.Deep.QuietTactic
import Derived.BigQuiet
/- New; Dist, Alive. -/
namespace Go.Proofs.YthfngcpcccbnpaaDoor
open Go.RowKit Nums Ed Lv
set_option maxRecDepth 100000

def bldL (P : Program) (v : Value) (w : World) : Result Value := (Instr.build 73 #[(0, v)]).run P w
theorem exec_build_L (ρ : Operand → Value) (x : Operand) (dst : Option Tmp) (ty : TypeId) (pos : String) (af : Array Edge) (g : Option (Nat × Bool)) (w : World) : (execOp ρ ⟨dst, .build 73 #[(0, x)], ty, pos, af, g⟩).run Tryd.prog w = (bldL Tryd.prog (ρ x) w).andThen (fun v w' => .ok (.value v) w') := by
  simp only [execOp, Sem.run_bind, bldL, Sem.run_pure, List.map_toArray, List.map_cons, List.map_nil]
def levV (v : Value) (bs : List Nat) : Value := .agg (levC v bs)
theorem bldL_at (ad : Option Addr) (n c : Nat) (w : World) : bldL Tryd.prog (.slice ad n c) w = .ok (levV (.slice ad n c) zeros) w := by kernel_rfl
theorem exec_box_L (ρ : Operand → Value) (x : Operand) (dst : Option Tmp) (ty : TypeId) (pos : String) (af : Array Edge) (g : Option (Nat × Bool)) (w : World) : (execOp ρ ⟨dst, .box 73 x, ty, pos, af, g⟩).run Tryd.prog w = .ok (.value (.pointer (some ⟨w.heap.size, 0, none⟩))) (w.alloc (.cells (celV (ρ x)) 73)) := by
  simp only [execOp, Sem.run_bind, Instr.box, newVar, newRow]
  rfl
theorem levV_cells (v : Value) (bs : List Nat) : celV (levV v bs) = levC v bs := rfl
/-- What may be asked. -/
def rightB (l : List UInt8) (e : Int) : Bool := wordB l && decide (0 ≤ e) && decide (e ≤ 3)
theorem word_runesL {l : List UInt8} (h : wordB l = true) : ∃ xs, rs l = some xs ∧ 1 ≤ xs.length ∧ xs.length ≤ 24 := by
  unfold wordB at h
  cases e : rs l with
  | none => rw [e] at h; cases h
  | some xs => rw [e] at h; simp at h; exact ⟨xs, rfl, by omega, by omega⟩
/-- dead, so far. -/
def deadK (d k : Nat) : List Nat := mk fun j => if j < k then d + 1 else 0
theorem deadK_zero (d : Nat) : deadK d 0 = zeros := by rw [zeros_mk]; exact mk_congr fun j _ => by simp
theorem deadK_end (n d : Nat) : deadK d (n + 1) = deadL n d := mk_congr fun j _ => by
  unfold dd
  by_cases h : j ≤ n
  · rw [if_pos h, if_pos (by omega)]
  · rw [if_neg h, if_neg (by omega)]
theorem deadK_next (d : Nat) {k : Nat} (h : k < 25) : (deadK d k).set k (d + 1) = deadK d (k + 1) := by
  rw [deadK, mk_set _ _ h]
  refine mk_congr fun j _ => ?_
  by_cases h1 : j = k
  · subst h1; simp
  · rw [if_neg h1]
    by_cases h2 : j < k
    · rw [if_pos h2, if_pos (by omega)]
    · rw [if_neg h2, if_neg (by omega)]
theorem lev_set {w : World} {p k x : Nat} {v : Value} {bs : List Nat} {t : TypeId} {f : Nat × Nat} (h : w.heap[p]? = some (.cells (levC v bs) t f)) : (w.setCell ⟨p, 1 + k, none⟩ (bv x)).heap[p]? = some (.cells (levC v (bs.set k x)) t f) := by
  simp only [World.setCell, Array.getElem?_modify, h]
  simp [levC, List.map_set, Nat.add_comm 1 k]
/-- What New has told. -/
def NewSays (w w' : World) (l : List UInt8) (e : Int) (v : Value) (c : Int) : Prop :=
  Below w.heap.size w w' ∧ ((rightB l e = false ∧ v = .pointer none ∧ c = 110) ∨ (rightB l e = true ∧ c = 0 ∧ ∃ p xs d, v = .pointer (some ⟨p, 0, none⟩) ∧ w.heap.size ≤ p ∧ rs l = some xs ∧ e = (d : Nat) ∧ LevAt w' p xs d))
theorem Runes_yes (s : ByteArray) (xs : List Int) (w : World) (ht : Tabs w) (hm : s.size ≤ 9223372036854775807) (hroom : Room s.data.toList) (hx : rs s.data.toList = some xs) :
    Calls Tryd.prog 20 #[.string s] w fun e w' => ∃ v, e = .returned (.tuple #[v, .bool true]) ∧ Below w.heap.size w w' ∧ Made w.heap.size w' v xs := by
  refine (Runes_any s w ht hm hroom).mono ?_
  rintro e w' ⟨v, hb, ⟨hno, _, _⟩ | ⟨ys, hys, rfl, hmade⟩⟩
  · rw [hno] at hx; cases hx
  · obtain rfl : ys = xs := Option.some.inj (hys.symm.trans hx)
    exact ⟨v, rfl, hb, hmade⟩
attribute [local go_sem ↓] exec_build_L exec_box_L
attribute [local go_sem] levV_cells
set_option maxHeartbeats 1000000 in
theorem New_any (s : ByteArray) (e : Int) (w : World) (ht : Tabs w) (hm : s.size ≤ 9223372036854775807) :
    Calls Tryd.prog 14 #[.string s, .int .i64 e] w fun x w' => ∃ v c, x = .returned (.tuple #[v, .int .i64 c]) ∧ NewSays w w' s.data.toList e v c := by
  by_cases hr : rightB s.data.toList e = true
  · have HR : Hid (rightB s.data.toList e = true) := hr
    have hh := hr
    simp only [rightB, Bool.and_eq_true, decide_eq_true_eq] at hh
    obtain ⟨⟨hw, h0⟩, h3⟩ := hh
    have HWD : Hid (wordB s.data.toList = true) := hw
    obtain ⟨xs, hxs, hx1, hx24⟩ := word_runesL hw
    have HXS : Hid (rs s.data.toList = some xs) := hxs
    have HROOM : Hid (Room s.data.toList) := room_of_runes hxs (by omega)
    obtain ⟨d, rfl⟩ : ∃ d : Nat, e = (d : Int) := ⟨e.toNat, by omega⟩
    clear hr hw hxs
    go_enter Tryd.func14, Tryd.ntmps14
    go_upto_region 3 with (go_at_call 15; refine (Word_any s _ ht hm).mono ?_; rintro e w1 ⟨rfl, hw1⟩; rw [HWD.out])
    have hb1 : Below w.heap.size w w1 := by obtain ⟨n, rfl⟩ := hw1; exact below_drewN (Below.refl _ _) n
    have ht1 : Tabs w1 := ht.below hb1
    clear hw1
    go_upto_region 4 with (go_at_call 20; refine (Runes_yes s xs _ ht1 hm HROOM.out HXS.out).mono ?_; rintro e w2 ⟨v, rfl, hb2, hmade⟩)
    have hb12 : Below w.heap.size w w2 := hb1.trans (hb2.mono hb1.size)
    have HX2 : Hid (RunesAt w2.heap.size w2 v xs) := hmade.runesE
    obtain ⟨ad, cap, rfl⟩ := HX2.out.form
    have hbl := bldL_at ad xs.length cap w2
    have HP3 : Hid ((w2.alloc (.cells (levC (.slice ad xs.length cap) zeros) 73)).heap[w2.heap.size]? = some (.cells (levC (.slice ad xs.length cap) zeros) 73 (0, 0))) := alloc_newR _ _
    have HB3 : Hid (Below w.heap.size w (w2.alloc (.cells (levC (.slice ad xs.length cap) zeros) 73))) := hb12.alloc hb12.size _
    have HBB : Hid (Below w2.heap.size w2 (w2.alloc (.cells (levC (.slice ad xs.length cap) zeros) 73))) := (Below.refl _ _).alloc (Nat.le_refl _) _
    have HX3 : Hid (RunesAt w2.heap.size (w2.alloc (.cells (levC (.slice ad xs.length cap) zeros) 73)) (.slice ad xs.length cap) xs) := HX2.out.below HBB.out
    have HBS : Hid (w.heap.size ≤ w2.heap.size) := hb12.size
    clear hmade hb1 ht1 hb2 hb12 HX2 HBB
    obtain ⟨N, hN⟩ : ∃ N, N = xs.length + 1 := ⟨_, rfl⟩
    have HN : Hid (N = xs.length + 1) := hN
    have hwN : IntKind.i64.wrap ((xs.length : Int) + 1) = (N : Int) := by rw [IntKind.wrap_i64]; omega
    have hwd : IntKind.u8.wrap (d : Int) = (d : Int) := by rw [IntKind.wrap_u8]; omega
    have hwd1 : IntKind.u8.wrap ((d : Int) + 1) = (d : Int) + 1 := by rw [IntKind.wrap_u8]; omega
    clear hN
    go_wp2_with fail
    go_loopw [32] (fun v wr => ∃ k : Nat, v = .int .i64 k ∧ k ≤ N ∧ wr.heap[w2.heap.size]? = some (.cells (levC (.slice ad xs.length cap) (deadK d k)) 73 (0, 0)) ∧ RunesAt w2.heap.size wr (.slice ad xs.length cap) xs ∧ Below w.heap.size w wr) (fun v _ => N - (intOf v).toNat)
    case atStart => exact ⟨0, rfl, Nat.zero_le _, by rw [deadK_zero]; exact HP3.out, HX3.out, HB3.out⟩
    case round =>
      clear HP3 HX3 HB3
      obtain ⟨k, rfl, hk, hP, hX, hB⟩ := hrel
      have HP : Hid (wr.heap[w2.heap.size]? = some (.cells (levC (.slice ad xs.length cap) (deadK d k)) 73 (0, 0))) := hP
      have HX : Hid (RunesAt w2.heap.size wr (.slice ad xs.length cap) xs) := hX
      have HB : Hid (Below w.heap.size w wr) := hB
      have hwr : w2.heap.size < wr.heap.size := (Array.getElem?_eq_some_iff.1 hP).1
      by_cases hk8 : k < N
      · have hk25 : k < 25 := by have := HN.out; omega
        have hcell : wr.cell? ⟨w2.heap.size, 1 + k, none⟩ = some (bv ((deadK d k).getD k 0)) := by
          have := lev_range hP k (bv ((deadK d k).getD k 0)) (by rw [List.getElem?_map, deadK, mk_get _ hk25, mk_getD _ hk25]; rfl)
          simpa using this
        have hfz : wr.frozen? ⟨w2.heap.size, 1 + k, none⟩ = false := by simp [World.frozen?, hP]
        obtain ⟨y, hy⟩ : ∃ y, (deadK d k).getD k 0 = y := ⟨_, rfl⟩
        rw [hy] at hcell
        clear hP hX hB hy hbl
        go_wp2_with fail
        go_roundw
        case rel =>
          refine ⟨k + 1, by go_num, by omega, ?_, HX.out.below ((Below.refl w2.heap.size wr).setCell (p := ⟨w2.heap.size, 1 + k, none⟩) (Nat.le_refl _) _), HB.out.setCell HBS.out _⟩
          rw [← deadK_next _ hk25]
          exact lev_set HP.out
        case measure => simp [intOf]; omega
      · obtain rfl : k = N := by omega
        have HL : Hid (LevAt wr w2.heap.size xs d) := by
          refine ⟨hx24, by omega, ad, cap, ?_, hX.mono (by omega)⟩
          rw [HN.out, deadK_end] at hP
          exact hP
        clear hP hX hB HP HX
        go_wp2_with fail
        go_ret2
        exact ⟨_, _, rfl, HB.out, .inr ⟨HR.out, rfl, _, xs, d, rfl, HBS.out, HXS.out, rfl, HL.out⟩⟩
  · have HR : Hid (rightB s.data.toList e = false) := by unfold Hid; simpa using hr
    clear hr
    by_cases hw : wordB s.data.toList = true
    · have HWD : Hid (wordB s.data.toList = true) := hw
      have hne : ¬ (0 ≤ e ∧ e ≤ 3) := by
        intro hh
        have := HR.out
        simp [rightB, hw, hh] at this
      clear hw
      by_cases h0 : e < 0
      · go_enter Tryd.func14, Tryd.ntmps14
        go_wp2_with (go_at_call 15; refine (Word_any s _ ht hm).mono ?_; rintro e w1 ⟨rfl, hw1⟩; rw [HWD.out])
        go_ret2
        exact ⟨_, _, rfl, by obtain ⟨n, rfl⟩ := hw1; exact below_drewN (Below.refl _ _) n, .inl ⟨HR.out, rfl, rfl⟩⟩
      · have h3 : 3 < e := by omega
        go_enter Tryd.func14, Tryd.ntmps14
        go_wp2_with (go_at_call 15; refine (Word_any s _ ht hm).mono ?_; rintro e w1 ⟨rfl, hw1⟩; rw [HWD.out])
        go_ret2
        exact ⟨_, _, rfl, by obtain ⟨n, rfl⟩ := hw1; exact below_drewN (Below.refl _ _) n, .inl ⟨HR.out, rfl, rfl⟩⟩
    · have HWD : Hid (wordB s.data.toList = false) := by unfold Hid; simpa using hw
      clear hw
      go_enter Tryd.func14, Tryd.ntmps14
      go_wp2_with (go_at_call 15; refine (Word_any s _ ht hm).mono ?_; rintro e w1 ⟨rfl, hw1⟩; rw [HWD.out])
      go_ret2
      exact ⟨_, _, rfl, by obtain ⟨n, rfl⟩ := hw1; exact below_drewN (Below.refl _ _) n, .inl ⟨HR.out, rfl, rfl⟩⟩
attribute [local go_sem ↓] exec_alloc_R exec_box_R exec_load_R exec_store_R
attribute [local go_sem] rV_cells
set_option maxHeartbeats 1000000 in
theorem Dist_any (p : Nat) (xs : List Int) (d : Nat) (s : List Nat) (w : World) (h : LevAt w p xs d) (hs : s.length = 25) :
    Calls Tryd.prog 22 #[.pointer (some ⟨p, 0, none⟩), rV s] w fun e w' => e = .returned (.tuple #[.int .i64 (distN xs.length d s : Int), .bool (distB xs.length d s)]) ∧ Below w.heap.size w w' := by
  obtain ⟨hn, hd, ad, cap, hp, hr⟩ := h
  have hpl : p < w.heap.size := (Array.getElem?_eq_some_iff.1 hp).1
  obtain ⟨w2, hw2⟩ : ∃ w2, w.alloc (.cells (rC s) 49) = w2 := ⟨_, rfl⟩
  have A2 : RAt w2 w.heap.size s := hw2 ▸ RAt.new w _
  have B2 : Below w.heap.size w w2 := hw2 ▸ (Below.refl _ w).alloc (Nat.le_refl _) _
  have HW : Hid (w.alloc (.cells (rC s) 49) = w2) := hw2
  have hp2 := (B2.block p hpl).trans hp
  have hc1 := lev_word hp2
  have hc2 := lev_dead hp2 (j := xs.length) (by omega)
  rw [dd, if_pos (Nat.le_refl _)] at hc2
  have hc3 := A2.cell (i := xs.length) (by omega)
  obtain ⟨y, hy⟩ : ∃ y, s.getD xs.length 0 = y := ⟨_, rfl⟩
  rw [hy] at hc3
  have HB2 : Hid (Below w.heap.size w w2) := B2
  have HDN : Hid (distN xs.length d s = if y ≤ d then y else 0) := by unfold Hid distN; rw [hy]
  have HDB : Hid (distB xs.length d s = decide (y ≤ d)) := by unfold Hid distB; rw [hy]
  have hx25 : (xs.length : Int) < 25 := by omega
  have hcast : ((d + 1 : Nat) : Int) = (d : Int) + 1 := by omega
  unfold bv at hc2 hc3
  rw [hcast] at hc2
  clear hw2 A2 B2 hp hr hp2 hy hcast
  by_cases hyd : y ≤ d
  · have hcmp : ¬ ((d : Int) + 1 ≤ (y : Int)) := by omega
    go_enter Tryd.func22, Tryd.ntmps22
    go_upto_region 1 with fail
    rw [HW.out]
    go_upto_region 2 with fail
    go_quiet (fail)
    go_wp2_with fail
    go_ret2
    exact ⟨by rw [HDN.out, HDB.out, if_pos hyd, decide_eq_true hyd]; rfl, below_drewN HB2.out _⟩
  · have hcmp : (d : Int) + 1 ≤ (y : Int) := by omega
    go_enter Tryd.func22, Tryd.ntmps22
    go_upto_region 1 with fail
    rw [HW.out]
    go_upto_region 2 with fail
    go_quiet (fail)
    go_wp2_with fail
    go_ret2
    exact ⟨by rw [HDN.out, HDB.out, if_neg hyd, decide_eq_false hyd]; rfl, below_drewN HB2.out _⟩
set_option maxHeartbeats 1000000 in
theorem Alive_any (p : Nat) (xs : List Int) (d : Nat) (s : List Nat) (w : World) (h : LevAt w p xs d) (hs : s.length = 25) :
    Calls Tryd.prog 56 #[.pointer (some ⟨p, 0, none⟩), rV s] w fun e w' => e = .returned (.bool (aliveB xs.length d s)) ∧ Below w.heap.size w w' := by
  have HL : Hid (LevAt w p xs d) := h
  obtain ⟨hn, hd, ad, cap, hp, hr⟩ := h
  have hpl : p < w.heap.size := (Array.getElem?_eq_some_iff.1 hp).1
  obtain ⟨w2, hw2⟩ : ∃ w2, w.alloc (.cells (rC s) 49) = w2 := ⟨_, rfl⟩
  have A2 : Hid (RAt w2 w.heap.size s) := hw2 ▸ RAt.new w _
  have B2 : Hid (Below w.heap.size w w2) := hw2 ▸ (Below.refl _ w).alloc (Nat.le_refl _) _
  have HW : Hid (w.alloc (.cells (rC s) 49) = w2) := hw2
  have L2 : Hid (LevAt w2 p xs d) := HL.out.below B2.out
  have hsz : w.heap.size < w2.heap.size := A2.out.lt
  have HPW : Hid (∀ W, Below w.heap.size w W → loadR Tryd.prog (.pointer (some ⟨p, 1, none⟩)) W = .ok (rV (deadL xs.length d)) W) := fun W hW => loadR_at (lev_range ((hW.block p hpl).trans hp)) (deadL_len xs.length d)
  clear hw2 hp hr
  go_enter Tryd.func56, Tryd.ntmps56
  go_upto_region 1 with fail
  rw [HW.out]
  have hS0 : loadR Tryd.prog (.pointer (some ⟨p, 1, none⟩)) w2.drew = .ok (rV (deadL xs.length d)) w2.drew ∧ loadR Tryd.prog (.pointer (some ⟨w.heap.size, 0, none⟩)) w2.drew = .ok (rV s) w2.drew := ⟨HPW.out _ B2.out.drew, loadR_at (RAt.range (w := w2.drew) A2.out) hs⟩
  refine region_at (S := fun W' => loadR Tryd.prog (.pointer (some ⟨p, 1, none⟩)) W' = .ok (rV (deadL xs.length d)) W' ∧ loadR Tryd.prog (.pointer (some ⟨w.heap.size, 0, none⟩)) W' = .ok (rV s) W') 9 rfl mixedP hS0 (fun _ => ?_)
  refine take_at (i := 0) 5 rfl rfl (by kernel_rfl) (by kernel_rfl) (by kernel_rfl) (fun _ _ _ h => h) (by rfl) (fun w hSw => by (have hSw2 := id hSw; clear hSw; go_simp; first | done | exact rfl)) (by assumption) ?_
  simp only [List.setIfInBounds_toArray, List.set_cons_zero, List.set_cons_succ]
  refine take_at (i := 1) (v := rV s) 6 rfl rfl (by kernel_rfl) (by kernel_rfl) (by kernel_rfl) (fun _ _ _ h => h) (by rfl) (fun w hSw => by (have h2 := hSw.2; exact (exec_load_R _ (.tmp 3) _ _ _ _ _ _).trans (congrArg (fun z => Result.andThen z (fun v w' => Result.ok (Next.value v) w')) h2))) (by assumption) ?_
  simp only [List.setIfInBounds_toArray, List.set_cons_zero, List.set_cons_succ]
  refine take_at (i := 3) 8 rfl rfl (by kernel_rfl) (by kernel_rfl) (by kernel_rfl) (fun _ _ _ h => h) (by rfl) (fun w hSw => by (have hSw2 := id hSw; clear hSw; go_simp; first | done | exact rfl)) (by assumption) ?_
  simp only [List.setIfInBounds_toArray, List.set_cons_zero, List.set_cons_succ]
  refine take_at (i := 4) 9 rfl rfl (by kernel_rfl) (by kernel_rfl) (by kernel_rfl) (fun _ _ _ h => h) (by rfl) (fun w hSw => by (have hSw2 := id hSw; clear hSw; go_simp; first | done | exact rfl)) (by assumption) ?_
  simp only [List.setIfInBounds_toArray, List.set_cons_zero, List.set_cons_succ]
  refine take_at (i := 5) 10 rfl rfl (by kernel_rfl) (by kernel_rfl) (by kernel_rfl) (fun _ _ _ h => h) (by rfl) (fun w hSw => by (have hSw2 := id hSw; clear hSw; go_simp; first | done | exact rfl)) (by assumption) ?_
  simp only [List.setIfInBounds_toArray, List.set_cons_zero, List.set_cons_succ]
  refine take_at (i := 6) (v := rV (deadL xs.length d)) 11 rfl rfl (by kernel_rfl) (by kernel_rfl) (by kernel_rfl) (fun _ _ _ h => h) (by rfl) (fun w hSw => by (have h2 := hSw.1; exact (exec_load_R _ (.tmp 10) _ _ _ _ _ _).trans (congrArg (fun z => Result.andThen z (fun v w' => Result.ok (Next.value v) w')) h2))) (by assumption) ?_
  simp only [List.setIfInBounds_toArray, List.set_cons_zero, List.set_cons_succ]
  refine one_call (i := 2) (w0 := w2.drew) 7 41 #[.pointer (some ⟨p, 0, none⟩), rV s] (by kernel_rfl) rfl rfl (by rfl) (by kernel_rfl) ?_
  refine (cut_any p xs d s w2.drew (L2.out.below (Below.refl _ w2).drew) hs).mono ?_
  rintro e w3 ⟨rfl, hb3⟩
  have B3 : Below w.heap.size w w3 := B2.out.drew.trans (hb3.mono (by show w.heap.size ≤ w2.heap.size; omega))
  have hS3 : loadR Tryd.prog (.pointer (some ⟨p, 1, none⟩)) w3 = .ok (rV (deadL xs.length d)) w3 ∧ loadR Tryd.prog (.pointer (some ⟨w.heap.size, 0, none⟩)) w3 = .ok (rV s) w3 := ⟨HPW.out _ B3, loadR_at (RAt.range (RAt.below (w := w2.drew) (w' := w3) (B := w2.heap.size) A2.out (by omega) hb3)) hs⟩
  refine ⟨_, rfl, hS3, fun _ => ?_⟩
  simp only [List.setIfInBounds_toArray, List.set_cons_zero, List.set_cons_succ]
  refine one_value (i := 7) (v := .bool (aliveB xs.length d s)) (w' := w3) 12 (by kernel_rfl) rfl rfl (by rfl) ?_ hS3 (fun _ => ?_)
  · have hb1 : ∀ x ∈ cutL xs.length d s, x < 256 := mk_byte fun j _ => by have := cutF_le xs.length d s j; omega
    have hb2 : ∀ x ∈ deadL xs.length d, x < 256 := mk_byte fun j _ => by have := dd_le xs.length d j; omega
    have hq := neq_row (cutL_len xs.length d s) (deadL_len xs.length d) hb1 hb2 w3
    have hg := guard_row .neq (.tmp 7) (.tmp 11) (cutL xs.length d s) (deadL xs.length d) w3
    go_simp
    rw [aliveB, Bool.not_not]
  simp only [List.setIfInBounds_toArray, List.set_cons_zero, List.set_cons_succ]
  refine one_value (i := 8) (v := .bool (aliveB xs.length d s)) (w' := w3) 4 (by kernel_rfl) rfl rfl (by rfl) (by kernel_rfl) hS3 (fun _ => ?_)
  simp only [List.setIfInBounds_toArray, List.set_cons_zero, List.set_cons_succ]
  refine wpAnyH_done (by kernel_rfl) ?_ _
  clear hS0 hS3
  go_wp2_with fail
  go_ret
  exact ⟨rfl, B3⟩
end Go.Proofs.YthfngcpcccbnpaaDoor

/- Cut: what the seat's translation lacks is left out. -/
/- The law's alive and made; the reference's Right. -/
namespace Go.Proofs.YthfngcpcccbnpaaDoor
open Go.RowKit Nums Ed Lv
set_option maxRecDepth 100000

/-- A row laid into a new block. -/
theorem keep_row (w : World) (ys : List Nat) (h : ys.length = 25) : ∃ w', storeR Tryd.prog (.pointer (some ⟨w.heap.size, 0, none⟩)) (rV ys) (w.alloc (.cells (rC zeros) 49)) = .ok () w' ∧ RAt w' w.heap.size ys ∧ Below w.heap.size w w' ∧ w.heap.size < w'.heap.size := by
  have N5 : RAt (w.alloc (.cells (rC zeros) 49)) w.heap.size zeros := RAt.new _ _
  obtain ⟨P6, O6⟩ := N5.put (ys := ys) (by rw [h, zeros_len])
  exact ⟨_, storeR_at N5 zeros_len h, P6, O6.below ((Below.refl _ w).alloc (Nat.le_refl _) _) (Nat.le_refl _), P6.lt⟩
theorem put_row {w : World} {b : Nat} {bs : List Nat} (ys : List Nat) (hb : RAt w b bs) (hl : bs.length = 25) (h : ys.length = 25) : ∃ w', storeR Tryd.prog (.pointer (some ⟨b, 0, none⟩)) (rV ys) w = .ok () w' ∧ RAt w' b ys ∧ One b w w' := by
  obtain ⟨P6, O6⟩ := hb.put (ys := ys) (by rw [h, hl])
  exact ⟨_, storeR_at hb hl h, P6, O6⟩
def one3 : List Nat := ([1, 1, 1] : List Nat) ++ List.replicate 22 0
theorem exec_build_3 (a : Act) (dst : Option Tmp) (ty : TypeId) (pos : String) (af : Array Edge) (g : Option (Nat × Bool)) (w : World) : (execOp a.eval ⟨dst, .build 49 #[(0, .const (.int .u8 1)), (1, .const (.int .u8 1)), (2, .const (.int .u8 1))], ty, pos, af, g⟩).run Tryd.prog w = .ok (.value (rV one3)) w := by
  have h : (Instr.build 49 #[(0, .int .u8 1), (1, .int .u8 1), (2, .int .u8 1)]).run Tryd.prog w = .ok (rV one3) w := by kernel_rfl
  simp only [execOp, Sem.run_bind, Sem.run_pure, List.map_toArray, List.map_cons, List.map_nil, Act.eval, h, Result.andThen]
attribute [local go_sem ↓] exec_alloc_R exec_box_R exec_load_R exec_store_R exec_build_3
attribute [local go_sem] rV_cells
end Go.Proofs.YthfngcpcccbnpaaDoor
