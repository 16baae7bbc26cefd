/- slot.Open. -/
import Derived.Test.YtpmmpdkeahmdiaaSlotB
namespace Go.Proofs.Ytpmmpdkeahmdiaa
open Go.RowKit
set_option maxRecDepth 100000

section
variable {P : Program} {md : Region.Mode} {ops : Array Oper} {Q : Exit → Act → World → Prop} {S : World → Prop}
/-- An operation that a guard leaves out. -/
theorem skip_at {i : Nat} {oi : Oper} {fuel : Nat} {listed : Array Bool} {tmps : Array Value} {df : List Deferred} {w : World} (t : Tmp) (hi : ops[i]? = some oi) (hd : oi.dst = some t)
    (hs : Region.noSelect ops = true) (hf : Region.free md ops listed i = true) (hr : (Region.ready md ops listed).contains i = true)
    (hQ : ∀ c a w, Q (.panic c) (a.put oi.dst undef) w → Q (.panic c) a w) (hw : Region.wanted oi (yielded ops tmps) = false) (hS : S w)
    (h : wpAnyH P md ops Q S fuel (listed.setIfInBounds i true) { tmps := tmps.setIfInBounds t undef, defers := df } w) : wpAnyH P md ops Q S (fuel + 1) listed { tmps := tmps, defers := df } w := by
  refine wpAnyH_take hi hs hf hr hQ (.inr ⟨hw, rfl⟩) hS ?_
  rw [hd]; exact h
end
/-- What the walk reads: the sector's bytes, the slot's number. -/
structure SO (bb s : Nat) (bs : List Nat) (n : Nat) (W : World) : Prop where
  arr : ArrAt 104 W bb bs
  num : W.cell? ⟨s, 2, none⟩ = some (.int .u64 (n : Int))
theorem SO.facts {bb s : Nat} {bs : List Nat} {n : Nat} {W : World} (h : SO bb s bs n W) : W.cell? ⟨s, 2, none⟩ = some (.int .u64 (n : Int)) := h.num
def OpenSays (p : Nat) (d : DS) (a : Int) (w : World) (e : Ending) (w' : World) : Prop :=
  (d.dead = true ∧ e = .returned (.tuple #[.pointer none, .int .i64 30]) ∧ w' = w) ∨
  (d.dead = false ∧ ∃ s g, e = .returned (.tuple #[.pointer (some ⟨s, 0, none⟩), .int .i64 0]) ∧ SlotAt w' s p a (openS d.secs a).1 (openS d.secs a).2 g ∧ w.heap.size ≤ s ∧ w.heap.size ≤ g ∧ Below w.heap.size w w')
attribute [local go_sem ↓] exec_alloc_S exec_box_S exec_load_S exec_store_S exec_copy_ver
attribute [local go_sem] verV_cells
theorem openK_skip {S : List Sec} {a : Int} {k : Nat} {bs : List Nat} (hb : (curOf S a (k : Int)).getD (zeros 64) = bs) (h : ¬ (RightS bs k ∧ (openK S a k).1 < secN bs)) : openK S a (k + 1) = openK S a k := by
  show openStep (openK S a k) k (curOf S a (k : Int)) = _
  unfold openStep
  cases hc : curOf S a (k : Int) with
  | none => rfl
  | some v => rw [hc] at hb; simp at hb; subst hb; simp only [if_neg h]
theorem openK_take {S : List Sec} {a : Int} {k : Nat} {bs : List Nat} (hb : (curOf S a (k : Int)).getD (zeros 64) = bs) (h : RightS bs k ∧ (openK S a k).1 < secN bs) : openK S a (k + 1) = (secN bs, secV bs) := by
  show openStep (openK S a k) k (curOf S a (k : Int)) = _
  unfold openStep
  cases hc : curOf S a (k : Int) with
  | none => rw [hc] at hb; simp at hb; subst hb; exact absurd h.1 (not_right k)
  | some v => rw [hc] at hb; simp at hb; subst hb; simp only [if_pos h]
set_option maxHeartbeats 1000000 in
theorem Open_any (N p : Nat) (d : DS) (fp : List Nat) (a : Int) (w : World) (h : DiskAt N w p d fp) (hN : N < 1099511627776) (hB : ByteS d.secs) :
    Calls Try.prog 20 #[.pointer (some ⟨p, 0, none⟩), .int .u64 a] w (OpenSays p d a w) := by
  have HD : Hid (DiskAt N w p d fp) := h
  have HBY : Hid (ByteS d.secs) := hB
  clear h hB
  cases hdd : d.dead with
  | true =>
    have HDD : Hid (d.dead = true) := hdd
    go_enter Try.func20, Try.ntmps20
    go_wp2_with fail
    refine (Dead_any N p d fp w HD.out).mono ?_
    rintro e w1 ⟨rfl, rfl⟩
    rw [hdd]
    clear hdd
    go_wp2_with fail
    go_ret2
    exact .inl ⟨HDD.out, rfl, rfl⟩
  | false =>
    have HDD : Hid (d.dead = false) := hdd
    go_enter Try.func20, Try.ntmps20
    go_wp2_with fail
    refine (Dead_any N p d fp w HD.out).mono ?_
    rintro e w1 ⟨rfl, rfl⟩
    rw [hdd]
    clear hdd
    have H0 : Hid (SlotAt (w1.alloc (.cells #[.pointer (some ⟨p, 0, none⟩), .int .u64 a, .int .u64 0, .slice none 0 0] 103)) w1.heap.size p a 0 [] w1.heap.size) := slot_new w1 p a
    have HB0 : Hid (Below w1.heap.size w1 (w1.alloc (.cells #[.pointer (some ⟨p, 0, none⟩), .int .u64 a, .int .u64 0, .slice none 0 0] 103))) := (Below.refl _ w1).alloc (Nat.le_refl _) _
    go_wp2_with fail
    go_loopw [17] (fun v wr => ∃ (k g : Nat), v = .int .i64 k ∧ k ≤ 2 ∧ SlotAt wr w1.heap.size p a (openK d.secs a k).1 (openK d.secs a k).2 g ∧ w1.heap.size ≤ g ∧ Below w1.heap.size w1 wr) (fun v _ => 2 - (intOf v).toNat)
    case atStart => exact ⟨0, w1.heap.size, rfl, by omega, H0.out, Nat.le_refl _, HB0.out⟩
    case round =>
      clear H0 HB0
      obtain ⟨k, g, rfl, hk, hsl, hg, hbw⟩ := hrel
      have HSL : Hid (SlotAt wr w1.heap.size p a (openK d.secs a k).1 (openK d.secs a k).2 g) := hsl
      have HBW : Hid (Below w1.heap.size w1 wr) := hbw
      have hsz := hbw.size
      clear hsl hbw
      by_cases hk2 : k < 2
      · go_wp2_with fail
        have HAL : Hid (Below w1.heap.size w1 (wr.alloc (.cells (verC (zeros 64)) 104))) := HBW.out.alloc hsz _
        have AA := ArrAt.new 104 wr (zeros 64)
        have SA := HSL.out.below ((Below.refl _ wr).alloc (Nat.le_refl _) (.cells (verC (zeros 64)) 104))
        refine (Read_any N p d fp a (k : Int) _ (HD.out.below HAL.out) (by omega)).mono ?_
        rintro e w2 ⟨hb2, hc2⟩
        have A2 := AA.below AA.lt hb2
        have S2 := SA.below hb2
        have B2 : Hid (Below w1.heap.size w1 w2) := HAL.out.trans (hb2.mono HAL.out.size)
        have hs2 : wr.heap.size < w2.heap.size := A2.lt
        obtain ⟨bs, hbs⟩ : ∃ bs, (curOf d.secs a (k : Int)).getD (zeros 64) = bs := ⟨_, rfl⟩
        have hbl : bs.length = 64 ∧ ∀ x ∈ bs, x < 256 := by
          rw [← hbs]
          cases hc : curOf d.secs a (k : Int) with
          | none => exact ⟨by simp [zeros], zeros_byte 64⟩
          | some v =>
            have h64 := HD.out.cur_len a (k : Int)
            rw [hc] at h64
            exact ⟨h64, HBY.out.cur hc⟩
        -- what is read, and what the array has behind the copy
        obtain ⟨rv, bo, w3, hret, hcp, A3, S3, B3⟩ : ∃ (rv : Value) (bo : Bool) (w3 : World), e = .returned (.tuple #[rv, .bool bo]) ∧ (∃ L, ∀ ty, copyV Try.prog (.slice (some ⟨wr.heap.size, 0, none⟩) 64 64) rv ty w2 = .ok (.int .i64 L) w3) ∧ ArrAt 104 w3 wr.heap.size bs ∧ SlotAt w3 w1.heap.size p a (openK d.secs a k).1 (openK d.secs a k).2 g ∧ Below w1.heap.size w1 w3 := by
          have fin : ∀ (rv : Value) (ys : List Nat), Row w2.heap.size w2 rv ys → over (zeros 64) 0 (ys.take 64) = bs → (∃ L, ∀ ty, copyV Try.prog (.slice (some ⟨wr.heap.size, 0, none⟩) 64 64) rv ty w2 = .ok (.int .i64 L) (setA w2 wr.heap.size 0 (ys.take 64))) ∧ ArrAt 104 (setA w2 wr.heap.size 0 (ys.take 64)) wr.heap.size bs ∧ SlotAt (setA w2 wr.heap.size 0 (ys.take 64)) w1.heap.size p a (openK d.secs a k).1 (openK d.secs a k).2 g ∧ Below w1.heap.size w1 (setA w2 wr.heap.size 0 (ys.take 64)) := by
            intro rv ys hr he
            have o3 := setA_one A2 0 (ys.take 64)
            have hlt := HSL.out.lt
            refine ⟨⟨_, fun ty => copyV_at ty A2 hr (by simp [zeros])⟩, ?_, S2.same (Nat.le_of_eq o3.size.symm) (o3.block _ (by omega)) (o3.block _ (by omega)), setA_below B2.out A2 (by omega) _ _⟩
            have := A2.set 0 (ys.take 64) (by simp [zeros]; omega)
            rwa [he] at this
          rcases hc2 with ⟨hc, he⟩ | ⟨v, b, hc, hv, he, hbge, hblk⟩
          · obtain ⟨q1, q2, q3, q4⟩ := fin (.slice none 0 0) [] ⟨none, 0, rfl, Nat.le_refl _, fun _ => rfl, fun h => by simp at h⟩ (by rw [← hbs, hc]; simp [over])
            exact ⟨_, _, _, he, q1, q2, q3, q4⟩
          · have hbv : bs = v := by rw [← hbs, hc]; rfl
            have hrow : Row w2.heap.size w2 (.slice (some ⟨b, 0, none⟩) 64 64) v := by
              have h := ArrAt.row (show ArrAt 87 w2 b v from hblk) 0 64 64 (by omega) (by omega) (show b < w2.heap.size from (Array.getElem?_eq_some_iff.1 hblk).1)
              rwa [List.drop_zero, List.take_of_length_le (by omega)] at h
            obtain ⟨q1, q2, q3, q4⟩ := fin _ v hrow (by rw [List.take_of_length_le (by omega), over_all (by simp [zeros, hv]), hbv])
            exact ⟨_, _, _, he, q1, q2, q3, q4⟩
        subst hret
        obtain ⟨LL, hcp⟩ := hcp
        have HBS : Hid ((curOf d.secs a (k : Int)).getD (zeros 64) = bs) := hbs
        have A3H : Hid (ArrAt 104 w3 wr.heap.size bs) := A3
        have S3H : Hid (SlotAt w3 w1.heap.size p a (openK d.secs a k).1 (openK d.secs a k).2 g) := S3
        have B3H : Hid (Below w1.heap.size w1 w3) := B3
        have HBL : Hid (bs.length = 64 ∧ ∀ x ∈ bs, x < 256) := hbl
        obtain ⟨n0, hn0⟩ : ∃ n0, (openK d.secs a k).1 = n0 := ⟨_, rfl⟩
        have HN0 : Hid ((openK d.secs a k).1 = n0) := hn0
        rw [hn0] at S3H
        have HSO : Hid (SO wr.heap.size w1.heap.size bs n0 w3.drew) := by
          obtain ⟨_, _, _, _, c2, _⟩ := S3H.out.cells
          exact ⟨A3, c2⟩
        have hw1r : w1.heap.size < wr.heap.size := HSL.out.lt.1
        have hgr : g < wr.heap.size := HSL.out.lt.2
        clear AA SA hb2 hc2 A2 S2 B2 A3 S3 B3 hbs hbl hn0 HAL
        go_wp2_with fail
        clear hcp
        refine region_at (S := SO wr.heap.size w1.heap.size bs n0) 12 rfl (by kernel_rfl) HSO.out (fun hHeld => ?_)
        refine take_S (i := 0) 30 rfl rfl rfl rfl (by kernel_rfl) (by kernel_rfl) (by kernel_rfl) (fun _ _ _ h => h) (by rfl) HBL.out.1 (fun _ h => h.arr) hHeld ?_
        simp only [List.setIfInBounds_toArray, List.set_cons_zero, List.set_cons_succ]
        refine take_at (i := 1) 31 rfl rfl (by kernel_rfl) (by kernel_rfl) (by kernel_rfl) (fun _ _ _ h => h) (by rfl) (fun w hSw => by (have hSw2 := SO.facts hSw; clear hSw; go_simp; first | done | exact rfl)) (by assumption) ?_
        simp only [List.setIfInBounds_toArray, List.set_cons_zero, List.set_cons_succ]
        refine one_call (i := 2) (w0 := w3.drew) 32 53 #[verV bs, .int .i64 (k : Int)] (by kernel_rfl) rfl rfl (by rfl) (by kernel_rfl) ?_
        refine (right_any bs k w3.drew HBL.out.1 HBL.out.2 hk2).mono ?_
        rintro e w4 ⟨rfl, hb4⟩
        have S4 : SlotAt w4 w1.heap.size p a n0 (openK d.secs a k).2 g := (show SlotAt w3.drew w1.heap.size p a n0 (openK d.secs a k).2 g from S3H.out).below hb4
        have B4 : Below w1.heap.size w1 w4 := B3H.out.drew.trans (hb4.mono B3H.out.size)
        have hO4 : SO wr.heap.size w1.heap.size bs n0 w4 := ⟨HSO.out.arr.below HSO.out.arr.lt hb4, by obtain ⟨_, _, _, _, c2, _⟩ := S4.cells; exact c2⟩
        refine ⟨_, rfl, hO4, fun _ => ?_⟩
        simp only [List.setIfInBounds_toArray, List.set_cons_zero, List.set_cons_succ]
        refine take_at (i := 3) 33 rfl rfl (by kernel_rfl) (by kernel_rfl) (by kernel_rfl) (fun _ _ _ h => h) (by rfl) (fun w hSw => by (have hSw2 := SO.facts hSw; clear hSw; go_simp; first | done | exact rfl)) (by assumption) ?_
        simp only [List.setIfInBounds_toArray, List.set_cons_zero, List.set_cons_succ]
        cases hR : decide (RightS bs k) with
        | false =>
          refine skip_at (i := 4) 34 rfl rfl (by kernel_rfl) (by kernel_rfl) (by kernel_rfl) (fun _ _ _ h => h) (by rfl) (by assumption) ?_
          simp only [List.setIfInBounds_toArray, List.set_cons_zero, List.set_cons_succ]
          refine skip_at (i := 5) 35 rfl rfl (by kernel_rfl) (by kernel_rfl) (by kernel_rfl) (fun _ _ _ h => h) (by rfl) (by assumption) ?_
          simp only [List.setIfInBounds_toArray, List.set_cons_zero, List.set_cons_succ]
          refine skip_at (i := 6) 36 rfl rfl (by kernel_rfl) (by kernel_rfl) (by kernel_rfl) (fun _ _ _ h => h) (by rfl) (by assumption) ?_
          simp only [List.setIfInBounds_toArray, List.set_cons_zero, List.set_cons_succ]
          refine skip_at (i := 7) 37 rfl rfl (by kernel_rfl) (by kernel_rfl) (by kernel_rfl) (fun _ _ _ h => h) (by rfl) (by assumption) ?_
          simp only [List.setIfInBounds_toArray, List.set_cons_zero, List.set_cons_succ]
          refine skip_at (i := 8) 38 rfl rfl (by kernel_rfl) (by kernel_rfl) (by kernel_rfl) (fun _ _ _ h => h) (by rfl) (by assumption) ?_
          simp only [List.setIfInBounds_toArray, List.set_cons_zero, List.set_cons_succ]
          refine skip_at (i := 9) 39 rfl rfl (by kernel_rfl) (by kernel_rfl) (by kernel_rfl) (fun _ _ _ h => h) (by rfl) (by assumption) ?_
          simp only [List.setIfInBounds_toArray, List.set_cons_zero, List.set_cons_succ]
          refine skip_at (i := 10) 40 rfl rfl (by kernel_rfl) (by kernel_rfl) (by kernel_rfl) (fun _ _ _ h => h) (by rfl) (by assumption) ?_
          simp only [List.setIfInBounds_toArray, List.set_cons_zero, List.set_cons_succ]
          refine take_at (i := 11) 41 rfl rfl (by kernel_rfl) (by kernel_rfl) (by kernel_rfl) (fun _ _ _ h => h) (by rfl) (fun w hSw => by (have hSw2 := SO.facts hSw; clear hSw; go_simp; first | done | exact rfl)) (by assumption) ?_
          simp only [List.setIfInBounds_toArray, List.set_cons_zero, List.set_cons_succ]
          refine wpAnyH_done (by kernel_rfl) ?_ _
          have HK : Hid (openK d.secs a (k + 1) = openK d.secs a k) := openK_skip HBS.out fun h => (of_decide_eq_false hR) h.1
          have S4H : Hid (SlotAt w4 w1.heap.size p a n0 (openK d.secs a k).2 g) := S4
          have B4H : Hid (Below w1.heap.size w1 w4) := B4
          clear hHeld hO4 S4 B4 hb4 hR
          go_wp2_with fail
          go_roundw
          case rel => exact ⟨k + 1, g, by go_num, by omega, by rw [HK.out, HN0.out]; exact S4H.out, hg, B4H.out⟩
          case measure => simp [intOf]; omega
        | true =>
          have hrt : RightS bs k := of_decide_eq_true hR
          have HRT : Hid (RightS bs k) := hrt
          clear hrt
          refine take_S (i := 4) 34 rfl rfl rfl rfl (by kernel_rfl) (by kernel_rfl) (by kernel_rfl) (fun _ _ _ h => h) (by rfl) HBL.out.1 (fun _ h => h.arr) hO4 ?_
          simp only [List.setIfInBounds_toArray, List.set_cons_zero, List.set_cons_succ]
          refine take_at (i := 6) 36 rfl rfl (by kernel_rfl) (by kernel_rfl) (by kernel_rfl) (fun _ _ _ h => h) (by rfl) (fun w hSw => by (have hSw2 := SO.facts hSw; clear hSw; go_simp; first | done | exact rfl)) (by assumption) ?_
          simp only [List.setIfInBounds_toArray, List.set_cons_zero, List.set_cons_succ]
          refine take_at (i := 7) 37 rfl rfl (by kernel_rfl) (by kernel_rfl) (by kernel_rfl) (fun _ _ _ h => h) (by rfl) (fun w hSw => by (have hSw2 := SO.facts hSw; clear hSw; go_simp; first | done | exact rfl)) (by assumption) ?_
          simp only [List.setIfInBounds_toArray, List.set_cons_zero, List.set_cons_succ]
          refine take_at (i := 8) 38 rfl rfl (by kernel_rfl) (by kernel_rfl) (by kernel_rfl) (fun _ _ _ h => h) (by rfl) (fun w hSw => by (have hSw2 := SO.facts hSw; clear hSw; go_simp; first | done | exact rfl)) (by assumption) ?_
          simp only [List.setIfInBounds_toArray, List.set_cons_zero, List.set_cons_succ]
          refine take_at (i := 9) 39 rfl rfl (by kernel_rfl) (by kernel_rfl) (by kernel_rfl) (fun _ _ _ h => h) (by rfl) (fun w hSw => by (have hSw2 := SO.facts hSw; clear hSw; go_simp; first | done | exact rfl)) (by assumption) ?_
          simp only [List.setIfInBounds_toArray, List.set_cons_zero, List.set_cons_succ]
          refine one_call (i := 5) (w0 := w4) 35 54 #[verV bs] (by kernel_rfl) rfl rfl (by rfl) (by kernel_rfl) ?_
          refine (number_any bs w4 HBL.out.1 HBL.out.2).mono ?_
          rintro e w5 ⟨rfl, hb5⟩
          have S5 : SlotAt w5 w1.heap.size p a n0 (openK d.secs a k).2 g := S4.below hb5
          have B5 : Below w1.heap.size w1 w5 := B4.trans (hb5.mono B4.size)
          have hO5 : SO wr.heap.size w1.heap.size bs n0 w5 := ⟨hO4.arr.below hO4.arr.lt hb5, by obtain ⟨_, _, _, _, c2, _⟩ := S5.cells; exact c2⟩
          refine ⟨_, rfl, hO5, fun _ => ?_⟩
          simp only [List.setIfInBounds_toArray, List.set_cons_zero, List.set_cons_succ]
          obtain ⟨n5, hn5⟩ : ∃ n5, leV (bs.take 8) = n5 := ⟨_, rfl⟩
          have HN5 : Hid (secN bs = n5) := hn5
          rw [hn5]
          refine take_at (i := 10) 40 rfl rfl (by kernel_rfl) (by kernel_rfl) (by kernel_rfl) (fun _ _ _ h => h) (by rfl) (fun w hSw => by (have hSw2 := SO.facts hSw; clear hSw; go_simp; first | done | exact rfl)) (by assumption) ?_
          simp only [List.setIfInBounds_toArray, List.set_cons_zero, List.set_cons_succ]
          refine take_at (i := 11) 41 rfl rfl (by kernel_rfl) (by kernel_rfl) (by kernel_rfl) (fun _ _ _ h => h) (by rfl) (fun w hSw => by (have hSw2 := SO.facts hSw; clear hSw; go_simp; first | done | exact rfl)) (by assumption) ?_
          simp only [List.setIfInBounds_toArray, List.set_cons_zero, List.set_cons_succ]
          refine wpAnyH_done (by kernel_rfl) ?_ _
          have S5H : Hid (SlotAt w5 w1.heap.size p a n0 (openK d.secs a k).2 g) := S5
          have B5H : Hid (Below w1.heap.size w1 w5) := B5
          have A5H : Hid (ArrAt 104 w5 wr.heap.size bs) := hO5.arr
          have hs5 := hO5.arr.lt
          clear hHeld hO4 S4 B4 hb4 hR S5 B5 hO5 hb5 hn5
          by_cases hlt : n0 < n5
          · have hlt' : (n0 : Int) < (n5 : Int) := by omega
            have HK : Hid (openK d.secs a (k + 1) = (secN bs, secV bs)) := openK_take HBS.out ⟨HRT.out, by rw [HN0.out, HN5.out]; exact hlt⟩
            go_wp2_with fail
            have A6 : ArrAt 104 w5.drew wr.heap.size bs := A5H.out
            refine region_at (S := fun W => ArrAt 104 W wr.heap.size bs) 12 rfl (by kernel_rfl) A6 (fun hHeld => ?_)
            refine take_at (i := 0) 42 rfl rfl (by kernel_rfl) (by kernel_rfl) (by kernel_rfl) (fun _ _ _ h => h) (by rfl) (fun w hSw => by (have hSw2 := triv_arr hSw; clear hSw; go_simp; first | done | exact rfl)) (by assumption) ?_
            simp only [List.setIfInBounds_toArray, List.set_cons_zero, List.set_cons_succ]
            refine take_at (i := 1) 43 rfl rfl (by kernel_rfl) (by kernel_rfl) (by kernel_rfl) (fun _ _ _ h => h) (by rfl) (fun w hSw => by (have hSw2 := triv_arr hSw; clear hSw; go_simp; first | done | exact rfl)) (by assumption) ?_
            simp only [List.setIfInBounds_toArray, List.set_cons_zero, List.set_cons_succ]
            refine take_S (i := 2) 44 rfl rfl rfl rfl (by kernel_rfl) (by kernel_rfl) (by kernel_rfl) (fun _ _ _ h => h) (by rfl) HBL.out.1 (fun _ h => h) hHeld ?_
            simp only [List.setIfInBounds_toArray, List.set_cons_zero, List.set_cons_succ]
            refine take_S (i := 4) 46 rfl rfl rfl rfl (by kernel_rfl) (by kernel_rfl) (by kernel_rfl) (fun _ _ _ h => h) (by rfl) HBL.out.1 (fun _ h => h) hHeld ?_
            simp only [List.setIfInBounds_toArray, List.set_cons_zero, List.set_cons_succ]
            refine one_call (i := 3) (w0 := w5.drew) 45 54 #[verV bs] (by kernel_rfl) rfl rfl (by rfl) (by kernel_rfl) ?_
            refine (number_any bs w5.drew HBL.out.1 HBL.out.2).mono ?_
            rintro e w6 ⟨rfl, hb6⟩
            have A7 := A6.below A6.lt hb6
            have S6 : SlotAt w6 w1.heap.size p a n0 (openK d.secs a k).2 g := (show SlotAt w5.drew w1.heap.size p a n0 (openK d.secs a k).2 g from S5H.out).below hb6
            have B6 : Below w1.heap.size w1 w6 := B5H.out.drew.trans (hb6.mono B5H.out.size)
            refine ⟨_, rfl, A7, fun _ => ?_⟩
            simp only [List.setIfInBounds_toArray, List.set_cons_zero, List.set_cons_succ]
            rw [show leV (bs.take 8) = n5 from HN5.out]
            refine one_call (i := 5) (w0 := w6) 47 55 #[verV bs] (by kernel_rfl) rfl rfl (by rfl) (by kernel_rfl) ?_
            obtain ⟨m, hm⟩ : ∃ m, bs.getD 8 0 = m := ⟨_, rfl⟩
            have hm48 : m ≤ 48 := by rw [← hm]; exact HRT.out.2.2.1
            refine (value_any bs w6 HBL.out.1 m hm hm48).mono ?_
            rintro e w7 ⟨rfl, rfl⟩
            have V7 := ArrAt.new 104 w6 bs
            have A8 := A7.old (.cells (verC bs) 104)
            have S7 : SlotAt (w6.alloc (.cells (verC bs) 104)) w1.heap.size p a n0 (openK d.secs a k).2 g := S6.below ((Below.refl _ w6).alloc (Nat.le_refl _) _)
            have B7 : Below w1.heap.size w1 (w6.alloc (.cells (verC bs) 104)) := B6.alloc B6.size _
            obtain ⟨w7, hw7⟩ : ∃ w7, w6.alloc (.cells (verC bs) 104) = w7 := ⟨_, rfl⟩
            rw [hw7] at V7 A8 S7 B7
            rw [hw7]
            refine ⟨_, rfl, A8, fun _ => ?_⟩
            simp only [List.setIfInBounds_toArray, List.set_cons_zero, List.set_cons_succ]
            have hvl : (secV bs).length = m := by rw [secV, hm]; have := HBL.out.1; simp; omega
            have hs6 := S6.lt
            have SN : SlotAt ((w7.setCell ⟨w1.heap.size, 2, none⟩ (.int .u64 (n5 : Int))).setCell ⟨w1.heap.size, 3, none⟩ (.slice (some ⟨w6.heap.size, 9, none⟩) m 55)) w1.heap.size p a n5 (secV bs) w6.heap.size := by
              have h1 := S7.put (n' := n5) (ys := secV bs) (g' := w6.heap.size) (off := 9) (cap := 55) V7.lt (by omega) (by omega) (fun i hi => ?_)
              · rw [hvl] at h1; exact h1
              · rw [V7.cell (by have := HBL.out.1; omega)]
                congr 2
                rw [secV, hm]
                simp [List.getD_eq_getElem?_getD, show i < m by omega]
            obtain ⟨x3, c3, s0, s1, s2, s3, sz, _⟩ := S7.cells
            refine take_at (i := 6) 48 rfl rfl (by kernel_rfl) (by kernel_rfl) (by kernel_rfl) (fun _ _ _ h => h) (by rfl) (fun w hSw => by (have hSw2 := triv_arr hSw; clear hSw; go_simp; first | done | exact rfl)) (by assumption) ?_
            simp only [List.setIfInBounds_toArray, List.set_cons_zero, List.set_cons_succ]
            refine take_at (i := 7) 49 rfl rfl (by kernel_rfl) (by kernel_rfl) (by kernel_rfl) (fun _ _ _ h => h) (by rfl) (fun w hSw => by (have hSw2 := triv_arr hSw; clear hSw; go_simp; first | done | exact rfl)) (by assumption) ?_
            simp only [List.setIfInBounds_toArray, List.set_cons_zero, List.set_cons_succ]
            have o8 := one_setCell w7 w1.heap.size 2 (.int .u64 (n5 : Int))
            have A9 : ArrAt 104 (w7.setCell ⟨w1.heap.size, 2, none⟩ (.int .u64 (n5 : Int))) wr.heap.size bs := (o8.block _ (by omega)).trans A8
            refine one_skip (i := 8) (w' := w7.setCell ⟨w1.heap.size, 2, none⟩ (.int .u64 (n5 : Int))) (by kernel_rfl) rfl rfl (by rfl) (by go_simp; first | done | exact rfl) A9 (fun _ => ?_)
            refine take_at (i := 9) 50 rfl rfl (by kernel_rfl) (by kernel_rfl) (by kernel_rfl) (fun _ _ _ h => h) (by rfl) (fun w hSw => by (have hSw2 := triv_arr hSw; clear hSw; go_simp; first | done | exact rfl)) (by assumption) ?_
            simp only [List.setIfInBounds_toArray, List.set_cons_zero, List.set_cons_succ]
            refine take_at (i := 10) 51 rfl rfl (by kernel_rfl) (by kernel_rfl) (by kernel_rfl) (fun _ _ _ h => h) (by rfl) (fun w hSw => by (have hSw2 := triv_arr hSw; clear hSw; go_simp; first | done | exact rfl)) (by assumption) ?_
            simp only [List.setIfInBounds_toArray, List.set_cons_zero, List.set_cons_succ]
            have t3 : (w7.setCell ⟨w1.heap.size, 2, none⟩ (.int .u64 (n5 : Int))).cell? ⟨w1.heap.size, 3, none⟩ = some (.slice x3 (openK d.secs a k).2.length c3) := by go_simp
            have tz : (w7.setCell ⟨w1.heap.size, 2, none⟩ (.int .u64 (n5 : Int))).frozen? ⟨w1.heap.size, 3, none⟩ = false := by go_simp
            obtain ⟨w8, hw8⟩ : ∃ w8, w7.setCell ⟨w1.heap.size, 2, none⟩ (.int .u64 (n5 : Int)) = w8 := ⟨_, rfl⟩
            have o9 := one_setCell w8 w1.heap.size 3 (.slice (some ⟨w6.heap.size, 9, none⟩) m 55)
            have BN : Below w1.heap.size w1 ((w7.setCell ⟨w1.heap.size, 2, none⟩ (.int .u64 (n5 : Int))).setCell ⟨w1.heap.size, 3, none⟩ (.slice (some ⟨w6.heap.size, 9, none⟩) m 55)) := (B7.setCell (Nat.le_refl _) _).setCell (Nat.le_refl _) _
            rw [hw8] at A9 t3 tz SN BN
            rw [hw8]
            refine one_skip (i := 11) (w' := w8.setCell ⟨w1.heap.size, 3, none⟩ (.slice (some ⟨w6.heap.size, 9, none⟩) m 55)) (by kernel_rfl) rfl rfl (by rfl) (by go_simp; first | done | exact rfl) ((o9.block _ (by omega)).trans A9) (fun _ => ?_)
            refine wpAnyH_done (by kernel_rfl) ?_ _
            have SNH : Hid (SlotAt (w8.setCell ⟨w1.heap.size, 3, none⟩ (.slice (some ⟨w6.heap.size, 9, none⟩) m 55)) w1.heap.size p a n5 (secV bs) w6.heap.size) := SN
            have BNH : Hid (Below w1.heap.size w1 (w8.setCell ⟨w1.heap.size, 3, none⟩ (.slice (some ⟨w6.heap.size, 9, none⟩) m 55))) := BN
            have hg6 : w1.heap.size ≤ w6.heap.size := B6.size
            obtain ⟨wz, hwz⟩ : ∃ wz, w8.setCell ⟨w1.heap.size, 3, none⟩ (.slice (some ⟨w6.heap.size, 9, none⟩) m 55) = wz := ⟨_, rfl⟩
            rw [hwz] at SNH BNH
            rw [hwz]
            clear hHeld A6 A7 S6 B6 V7 A8 S7 B7 SN BN s0 s1 s2 s3 sz o8 A9 t3 tz hw8 o9 hwz hb6 hw7 hm
            go_wp2_with fail
            go_roundw
            case rel => exact ⟨k + 1, w6.heap.size, by go_num, by omega, by rw [HK.out]; show SlotAt wz w1.heap.size p a (secN bs) (secV bs) w6.heap.size; rw [HN5.out]; exact SNH.out, hg6, BNH.out⟩
            case measure => simp [intOf]; omega
          · have hlt' : ¬ (n0 : Int) < (n5 : Int) := by omega
            have HK : Hid (openK d.secs a (k + 1) = openK d.secs a k) := openK_skip HBS.out fun h => hlt (by have := h.2; rw [HN0.out, HN5.out] at this; exact this)
            go_wp2_with fail
            go_roundw
            case rel => exact ⟨k + 1, g, by go_num, by omega, by rw [HK.out, HN0.out]; exact S5H.out, hg, B5H.out⟩
            case measure => simp [intOf]; omega
      · have hk' : k = 2 := by omega
        subst hk'
        go_wp2_with fail
        go_ret2
        exact .inr ⟨HDD.out, w1.heap.size, g, rfl, HSL.out, Nat.le_refl _, hg, HBW.out⟩
end Go.Proofs.Ytpmmpdkeahmdiaa
