/- Texts that were written apart, joined. -/
import Derived.Test.YthecngkdmnadoaaGreatG24
import Derived.Test.YthecngkdmnadoaaGreatG19
/- codec's readers: Bytes; and Read. -/
namespace Go.Proofs.YthecngkdmnadoaaGreat
open Go.RowKit
set_option maxRecDepth 100000

theorem row_take {N : Nat} {w : World} {ao : Option Addr} {len cap n : Nat} {xs : List Nat} (h : Row N w (.slice ao len cap) xs) (hn : n ≤ xs.length) : Row N w (.slice ao n cap) (xs.take n) := by
  obtain ⟨ao', cap', e, hcap, hno, hc⟩ := h
  simp only [Value.slice.injEq] at e
  obtain ⟨rfl, rfl, rfl⟩ := e
  have hl : (xs.take n).length = n := by rw [List.length_take]; omega
  refine ⟨_, _, by rw [hl], by rw [hl]; omega, hno, fun h0 => ?_⟩
  rw [hl] at h0
  obtain ⟨b, off, e, hN, hd⟩ := hc (by omega)
  refine ⟨b, off, e, hN, fun i hi => ?_⟩
  rw [hl] at hi
  rw [hd i (by omega)]
  simp [List.getD_eq_getElem?_getD, hi]

def mostN (m : Int) : Nat := (max m 0).toNat
def bytesR (xs : List Nat) (e : Int) (m : Int) : List Nat × List Nat × Int :=
  if e ≠ 0 then ([], xs, e)
  else if (front xs (mostN m)).2.2 ≠ 0 then ([], xs, ((front xs (mostN m)).2.2 : Int))
  else if xs.length - (front xs (mostN m)).2.1 < (front xs (mostN m)).1 then ([], xs, 20)
  else ((xs.drop (front xs (mostN m)).2.1).take (front xs (mostN m)).1, xs.drop ((front xs (mostN m)).2.1 + (front xs (mostN m)).1), 0)

set_option maxHeartbeats 4000000 in
theorem Bytes_any {B : Nat} (rb : Nat) (xs : List Nat) (e : Int) (m : Int) (w : World) (h : Rd B w rb xs e) (hm : -9223372036854775808 ≤ m) (hm2 : m ≤ 9223372036854775807) :
    Calls Tryz.prog 89 #[.pointer (some ⟨rb, 0, none⟩), .int .i64 m] w fun x w' => ∃ v, x = .returned v ∧ Bytes w.heap.size w' v (bytesR xs e m).1 ∧ Rd B w' rb (bytesR xs e m).2.1 (bytesR xs e m).2.2 ∧ But rb w w' := by
  have HR : Hid (Rd B w rb xs e) := h
  obtain ⟨v, h1, h2, h3, h4, h5⟩ := h
  obtain ⟨c0, c1, f0, f1⟩ := rd_cells h1
  have HD : Hid (w.heap[rb]? = some (.cells #[v, .int .i64 e] 166 (0, 0)) ∧ Row rb w v xs ∧ (∀ x ∈ xs, x < 256)) := ⟨h1, h2, h3⟩
  have hff := front_facts xs (mostN m) h3
  have hcall := frontUint_any rb v xs (mostN m) w h2 h3 h4
  have hlt := (Array.getElem?_eq_some_iff.1 h1).1
  have hcase : (m < 0 ∧ ((mostN m : Nat) : Int) = 0) ∨ (0 ≤ m ∧ ((mostN m : Nat) : Int) = m) := by unfold mostN; omega
  have hmn : mostN m < 9223372036854775808 := by unfold mostN; omega
  clear h1 h3
  by_cases he : e = 0
  · subst he
    by_cases hz : (front xs (mostN m)).2.2 = 0
    · obtain ⟨g1, g2, g3, g4, g5, _⟩ := hff.1 hz
      have HU : Hid (bytesR xs 0 m = if xs.length - (front xs (mostN m)).2.1 < (front xs (mostN m)).1 then ([], xs, 20)
          else ((xs.drop (front xs (mostN m)).2.1).take (front xs (mostN m)).1, xs.drop ((front xs (mostN m)).2.1 + (front xs (mostN m)).1), 0)) := by
        show _ = _; rw [bytesR, if_neg (by simp), if_neg (by simp [hz])]
      rw [hz] at hcall
      generalize hf1 : (front xs (mostN m)).1 = n at hcall HU g4 g5
      generalize hf2 : (front xs (mostN m)).2.1 = k at hcall HU g1 g2 g3
      have HC : Hid (Calls Tryz.prog 116 #[v, .int .u64 (mostN m : Int)] w fun e w' => e = .returned (.tuple #[.int .u64 (n : Int), .int .i64 (k : Int), .int .i64 0]) ∧ w' = w) := hcall
      clear hff hcall hf1 hf2 hz
      obtain ⟨ao, cap, rfl, hcap, hno, hc⟩ := h2
      obtain ⟨b, off, rfl, hN, hd⟩ := hc (by omega)
      have hBb : B ≤ b := h5 (by omega) _ _ _ _ rfl
      have hkc : k ≤ cap := by omega
      clear hc hd hno
      by_cases hs : xs.length - k < n
      · have hV := HU.out
        rw [if_pos hs] at hV
        have HV : Hid (bytesR xs 0 m = ([], xs, 20)) := hV
        clear hV
        clear HU
        rcases hcase with ⟨hm0, hmm⟩ | ⟨hm0, hmm⟩
        all_goals
          rw [hmm] at HC
          clear hmm
          go_enter Tryz.func89, Tryz.ntmps89
          go_wp2_with (first
            | (go_at_call 116; refine HC.out.mono ?_; rintro x w' ⟨rfl, rfl⟩)
            | (go_at_call 117; refine (Fail_any rb xs 0 20 _ HR.out).mono ?_; rintro x w' ⟨rfl, hrd, hbut⟩))
          go_ret
          rw [HV.out]
          exact ⟨_, rfl, Bytes.nil _ _, hrd, hbut⟩
      · have hV := HU.out
        rw [if_neg hs] at hV
        have HV : Hid (bytesR xs 0 m = ((xs.drop k).take n, xs.drop (k + n), 0)) := hV
        clear hV
        have hnl : n ≤ xs.length - k := by omega
        have HW : Hid (Row rb w (.slice (if cap = k then some ⟨b, off, none⟩ else some ⟨b, off + k, none⟩) (k + n - k) (cap - k)) ((xs.drop k).take n)) := by
          show Row _ _ _ _
          rw [Nat.add_sub_cancel_left]
          exact row_take (row_drop HD.out.2.1 g2) (by rw [List.length_drop]; omega)
        have HL : Hid ((([] : List Nat).length + ((xs.drop k).take n).length ≤ 140737488355328)) := by show _ ≤ _; simp; omega
        clear HU hs
        rcases hcase with ⟨hm0, hmm⟩ | ⟨hm0, hmm⟩
        all_goals
          rw [hmm] at HC
          clear hmm
          go_enter Tryz.func89, Tryz.ntmps89
          go_wp2_with fail
          refine HC.out.mono ?_
          rintro x w' ⟨rfl, rfl⟩
          clear HC
          go_wp2_with (at_builtin; refine append_row (by rfl) _ _ rfl w'.heap.size rb _ _ [] ((xs.drop k).take n) rfl (Bytes.nil _ _) rfl HW.out HL.out (Nat.le_refl _) ?_)
          all_goals
            intro v1 w1 hown1 hb1 _
            have hrd1 := (hb1.block rb hlt).trans HD.out.1
            obtain ⟨d0, d1, k0, k1⟩ := rd_cells hrd1
            have HR1 : Hid (w1.heap[rb]? = _) := hrd1
            have hrow1 := HD.out.2.1.below (hb1.mono (Nat.le_of_lt hlt))
            have HWC : Hid (cap = k + n → Row rb w1 (.slice (some ⟨b, off, none⟩) (xs.length - (k + n)) 0) (xs.drop (k + n))) := row_drop_eq hrow1 (by omega)
            have HWE : Hid (cap ≠ k + n → Row rb w1 (.slice (some ⟨b, off + (k + n), none⟩) (xs.length - (k + n)) (cap - (k + n))) (xs.drop (k + n))) := row_drop_ne hrow1 (by omega)
            clear hrd1 hrow1 c0 c1 f0 f1
            have HO : Hid (Bytes w'.heap.size w1 v1 ((xs.drop k).take n)) := hown1
            clear hown1
            go_wp2_with fail
            all_goals
              go_ret
              rw [HV.out]
              exact ⟨_, rfl, HO.out.but ((But.refl rb w1).setCell 0 _) hlt, ⟨_, rd_set0 HR1.out, row_set (by first | exact HWC.out (by omega) | exact HWE.out (by omega)) (Nat.le_refl _), fun x hx => HD.out.2.2 x (List.mem_of_mem_drop (show x ∈ xs.drop (k + n) from hx)), by show (xs.drop (k + n)).length ≤ _; rw [List.length_drop]; omega, low_at hBb _ _ _ _⟩, (But.of_below hb1).setCell 0 _⟩
    · have HU : Hid (bytesR xs 0 m = ([], xs, ((front xs (mostN m)).2.2 : Int))) := by show _ = _; rw [bytesR, if_neg (by simp), if_pos hz]
      obtain ⟨g1, g2, g3⟩ := hff.2 hz
      rw [g1, g2] at hcall
      generalize hf3 : (front xs (mostN m)).2.2 = f at hcall HU hz g3
      have HC : Hid (Calls Tryz.prog 116 #[v, .int .u64 (mostN m : Int)] w fun e w' => e = .returned (.tuple #[.int .u64 0, .int .i64 0, .int .i64 (f : Int)]) ∧ w' = w) := hcall
      have hb : ((f : Int) == 0) = false := by simpa using hz
      clear hff hcall hf3 hz g1 g2
      rcases hcase with ⟨hm0, hmm⟩ | ⟨hm0, hmm⟩
      all_goals
        rw [hmm] at HC
        clear hmm
        go_enter Tryz.func89, Tryz.ntmps89
        go_wp2_with (first
          | (go_at_call 116; refine HC.out.mono ?_; rintro x w' ⟨rfl, rfl⟩)
          | (go_at_call 117; refine (Fail_any rb xs 0 (f : Int) _ HR.out).mono ?_; rintro x w' ⟨rfl, hrd, hbut⟩))
        go_ret
        rw [HU.out]
        exact ⟨_, rfl, Bytes.nil _ _, hrd, hbut⟩
  · have hb : (e == 0) = false := by simpa using he
    have HB : Hid (bytesR xs e m = ([], xs, e)) := by show _ = _; rw [bytesR, if_pos he]
    clear hff hcall
    go_enter Tryz.func89, Tryz.ntmps89
    go_wp2
    go_ret
    rw [HB.out]
    exact ⟨_, rfl, Bytes.nil _ _, HR.out, But.refl _ _⟩

set_option maxHeartbeats 2000000 in
theorem codecRead_any (N : Nat) (v : Value) (xs : List Nat) (w : World) (hrow : Row N w v xs) (hx : ∀ x ∈ xs, x < 256) (hl : xs.length ≤ 140737488355328) :
    Calls Tryz.prog 84 #[v] w fun x w' => ∃ rb, x = .returned (.pointer (some ⟨rb, 0, none⟩)) ∧ w.heap.size ≤ rb ∧ Rd w.heap.size w' rb xs 0 ∧ Below w.heap.size w w' := by
  have HR : Hid (Row N w v xs) := hrow
  obtain ⟨ao, cap, rfl, hcap⟩ := hrow.shape
  clear hrow
  go_enter Tryz.func84, Tryz.ntmps84
  go_wp2_with (at_builtin; refine append_row (by rfl) _ _ rfl w.heap.size N _ _ [] xs rfl (Bytes.nil _ _) rfl HR.out (by simpa using hl) (Nat.le_refl _) ?_)
  intro v1 w1 hown1 hb1 _
  have hs1 := hb1.size
  have HO : Hid (Bytes w.heap.size w1 v1 xs) := hown1
  obtain ⟨ao1, cap1, rfl, hcap1⟩ := hown1.row.shape
  clear hown1
  go_wp2_with fail
  go_ret
  refine ⟨w1.heap.size, rfl, hs1, ⟨_, heap_alloc_new w1 _, HO.out.row.below ((Below.refl _ _).alloc (Nat.le_refl _) _), hx, hl, HO.out.low⟩, hb1.alloc hs1 _⟩
end Go.Proofs.YthecngkdmnadoaaGreat

/- A segment asked: its index, and whom to ask for its records. -/
namespace Go.Proofs.YthecngkdmnadoaaGreat
open Go.RowKit
set_option maxRecDepth 100000

/-- What a segment's text says first: its index, what is behind it, and what is wrong with it. -/
def askR (ts : List Nat) : Nat × List Nat × Int := uintR ts 0 4611686018427387904
/-- The reader of a segment, and the variable by which the closure knows it. -/
def AskAt (B : Nat) (w : World) (rb cb : Nat) (xs : List Nat) (e : Int) : Prop := Rd B w rb xs e ∧ w.cell? ⟨cb, 0, none⟩ = some (.pointer (some ⟨rb, 0, none⟩)) ∧ cb ≠ rb ∧ cb < w.heap.size
/-- A text of sectors is short, and its bytes are bytes. -/
theorem textF_len {S : List Sec} {a : Int} : ∀ (f i : Nat), (textF S a f i).length ≤ 63 * f
  | 0, _ => Nat.le_refl _
  | f + 1, i => by
    rw [textF]
    split
    · simp
    · rename_i v _
      have h1 : (saysT v).length ≤ 63 := by unfold saysT saysN; rw [List.length_take]; omega
      split
      · omega
      · rw [List.length_append]
        have := textF_len (S := S) (a := a) f (i + 1)
        omega
theorem textF_byte {S : List Sec} {a : Int} (h : ∀ i v, curOf S a i = some v → ∀ x ∈ v, x < 256) : ∀ (f i : Nat), ∀ x ∈ textF S a f i, x < 256
  | 0, _, x, hx => by cases hx
  | f + 1, i, x, hx => by
    rw [textF] at hx
    split at hx
    · cases hx
    · rename_i v hv
      have h1 : ∀ y ∈ saysT v, y < 256 := fun y hy => h _ _ hv y (List.mem_of_mem_drop (List.mem_of_mem_take hy))
      split at hx
      · exact h1 x hx
      · rcases List.mem_append.1 hx with k | k
        · exact h1 x k
        · exact textF_byte h f (i + 1) x k
theorem Rd.lt {B : Nat} {w : World} {rb : Nat} {xs : List Nat} {e : Int} (h : Rd B w rb xs e) : rb < w.heap.size := by
  obtain ⟨v, h1, _⟩ := h
  exact (Array.getElem?_eq_some_iff.1 h1).1
theorem box_keeps {w w' : World} {rb : Nat} {v : Value} {t : TypeId} (hr : rb < w.heap.size) (h : But rb (w.alloc (.cells #[v] t)) w') : w'.cell? ⟨w.heap.size, 0, none⟩ = some v := by
  have h1 := h.block w.heap.size (by simp) (by omega)
  unfold World.cell?
  rw [h1, alloc_new]
  rfl
set_option maxHeartbeats 2000000 in
theorem ask_any (N p : Nat) (d : DS) (fp : List Nat) (n : Nat) (w : World) (h : DiskAt N w p d fp) (hN : N < 1099511627776) (hn : n ≤ 1152921504606846976) (hB : ∀ i v, curOf d.secs ((4 * n + 1 : Nat) : Int) i = some v → ∀ x ∈ v, x < 256) :
    Calls Tryz.prog 66 #[.pointer (some ⟨p, 0, none⟩), .int .u64 (n : Int)] w fun e w' => Below w.heap.size w w' ∧
      (((askR (textS d.secs ((4 * n + 1 : Nat) : Int))).2.2 ≠ 0 ∧ e = .returned (.tuple #[.int .u64 0, .nilFunc, .bool false])) ∨
       ((askR (textS d.secs ((4 * n + 1 : Nat) : Int))).2.2 = 0 ∧ ∃ rb cb, e = .returned (.tuple #[.int .u64 ((askR (textS d.secs ((4 * n + 1 : Nat) : Int))).1 : Int), .func (.func 88) #[] #[.pointer (some ⟨cb, 0, none⟩)], .bool true]) ∧ w.heap.size ≤ rb ∧ w.heap.size ≤ cb ∧ AskAt w.heap.size w' rb cb (askR (textS d.secs ((4 * n + 1 : Nat) : Int))).2.1 0)) := by
  have hT : ∀ x ∈ textS d.secs ((4 * n + 1 : Nat) : Int), x < 256 := textF_byte hB _ _
  have hL : (textS d.secs ((4 * n + 1 : Nat) : Int)).length ≤ 140737488355328 := Nat.le_trans (textF_len _ _) (by decide)
  have e1 : (4 * (n : Int) + 1) = ((4 * n + 1 : Nat) : Int) := by omega
  obtain ⟨A, hA⟩ : ∃ A : Int, (4 * (n : Int) + 1) = A := ⟨_, rfl⟩
  rw [← e1, hA] at hB hT hL
  rw [← e1, hA]
  have HT : Hid (Calls Tryz.prog 85 #[.pointer (some ⟨p, 0, none⟩), .int .u64 A] w fun e w' => ∃ v, e = .returned v ∧ Bytes w.heap.size w' v (textS d.secs A) ∧ Below w.heap.size w w') := textOf_any N p d fp _ w h hN hB
  obtain ⟨ts, hts⟩ : ∃ ts, textS d.secs A = ts := ⟨_, rfl⟩
  rw [hts] at HT hT hL
  rw [hts]
  have HX : Hid ((∀ x ∈ ts, x < 256) ∧ ts.length ≤ 140737488355328) := ⟨hT, hL⟩
  obtain ⟨k, hk⟩ : ∃ k, (askR ts).1 = k := ⟨_, rfl⟩
  obtain ⟨rs, hrs⟩ : ∃ rs, (askR ts).2.1 = rs := ⟨_, rfl⟩
  obtain ⟨er, her⟩ : ∃ er, (askR ts).2.2 = er := ⟨_, rfl⟩
  have HU : Hid (∀ B rb W, Rd B W rb ts 0 → Calls Tryz.prog 86 #[.pointer (some ⟨rb, 0, none⟩), .int .u64 4611686018427387904] W fun x w' => x = .returned (.int .u64 (k : Int)) ∧ Rd B w' rb rs er ∧ But rb W w') := by
    intro B rb W hW
    have := Uint_any rb ts 0 4611686018427387904 W hW
    rw [← hk, ← hrs, ← her]
    exact this
  rw [hk, hrs, her]
  clear h hB e1 hT hL hk hrs her hts
  have hb0 : Below w.heap.size w w := Below.refl _ w
  by_cases h0 : er = 0
  · subst h0
    go_enter Tryz.func66, Tryz.ntmps66
    go_wp2_with (first
      | (go_at_call 38; refine (areaOf_any n _ hn).mono ?_; rintro e w0 ⟨rfl, hw0⟩; subst w0)
      | (go_at_call 85; refine HT.out.mono ?_; rintro e w1 ⟨v, rfl, hb1, B1⟩)
      | (go_at_call 84; refine (codecRead_any _ _ ts _ hb1.row HX.out.1 HX.out.2).mono ?_; rintro e w2 ⟨rb, rfl, hrb, hR2, B2⟩)
      | (go_at_call 86; refine (HU.out _ rb _ (hR2.but ((Below.refl _ w2).alloc (Nat.le_refl _) _))).mono ?_; rintro e w3 ⟨rfl, hR3, B3⟩; have cB := box_keeps hR2.lt B3)
      | (go_at_call 87; refine (Err_any rb rs 0 _ hR3).mono ?_; rintro e w4 ⟨rfl, hw4⟩; subst w4))
    go_ret3
    have hB3 := ((Below.refl w1.heap.size w2).alloc B2.size _).trans (B3.below hrb (by simp; exact Nat.le_succ_of_le B2.size))
    refine ⟨B1.trans ((B2.trans hB3).mono B1.size), .inr ⟨by trivial, rb, w2.heap.size, rfl, Nat.le_trans B1.size hrb, Nat.le_trans B1.size B2.size, hR3.lower B1.size, cB, by have := hR2.lt; omega, ?_⟩⟩
    exact Nat.lt_of_lt_of_le (by simp) B3.size
  · have hne : (er == 0) = false := by simpa using h0
    go_enter Tryz.func66, Tryz.ntmps66
    go_wp2_with (first
      | (go_at_call 38; refine (areaOf_any n _ hn).mono ?_; rintro e w0 ⟨rfl, hw0⟩; subst w0)
      | (go_at_call 85; refine HT.out.mono ?_; rintro e w1 ⟨v, rfl, hb1, B1⟩)
      | (go_at_call 84; refine (codecRead_any _ _ ts _ hb1.row HX.out.1 HX.out.2).mono ?_; rintro e w2 ⟨rb, rfl, hrb, hR2, B2⟩)
      | (go_at_call 86; refine (HU.out _ rb _ (hR2.but ((Below.refl _ w2).alloc (Nat.le_refl _) _))).mono ?_; rintro e w3 ⟨rfl, hR3, B3⟩; have cB := box_keeps hR2.lt B3)
      | (go_at_call 87; refine (Err_any rb rs er _ hR3).mono ?_; rintro e w4 ⟨rfl, hw4⟩; subst w4))
    go_ret3
    have hB3 := ((Below.refl w1.heap.size w2).alloc B2.size _).trans (B3.below hrb (by simp; exact Nat.le_succ_of_le B2.size))
    exact ⟨B1.trans ((B2.trans hB3).mono B1.size), .inl ⟨h0, rfl⟩⟩
set_option maxHeartbeats 2000000 in
theorem askNext_any {B : Nat} (w : World) (rb cb : Nat) (xs : List Nat) (e : Int) (h : AskAt B w rb cb xs e) :
    Calls Tryz.prog 88 #[.pointer (some ⟨cb, 0, none⟩)] w fun r w' => ∃ v, r = .returned (.tuple #[v, .bool ((bytesR xs e 512).2.2 == 0)]) ∧ Bytes w.heap.size w' v (bytesR xs e 512).1 ∧ AskAt B w' rb cb (bytesR xs e 512).2.1 (bytesR xs e 512).2.2 ∧ But rb w w' := by
  obtain ⟨hR, hc, hne, hlt⟩ := h
  have HB : Hid (Calls Tryz.prog 89 #[.pointer (some ⟨rb, 0, none⟩), .int .i64 512] w fun x w' => ∃ v, x = .returned v ∧ Bytes w.heap.size w' v (bytesR xs e 512).1 ∧ Rd B w' rb (bytesR xs e 512).2.1 (bytesR xs e 512).2.2 ∧ But rb w w') := Bytes_any rb xs e 512 w hR (by decide) (by decide)
  obtain ⟨b, hb⟩ : ∃ b, bytesR xs e 512 = b := ⟨_, rfl⟩
  obtain ⟨b1, b2, b3⟩ := b
  rw [hb] at HB ⊢
  simp only at HB ⊢
  clear hb
  go_enter Tryz.func88, Tryz.ntmps88
  go_wp2_with (first
    | (go_at_call 89; refine HB.out.mono ?_; rintro e w1 ⟨v, rfl, hb1, hR1, B1⟩; obtain ⟨ao, cap, rfl, _⟩ := hb1.row.shape; have cB := (show w1.cell? ⟨cb, 0, none⟩ = some (.pointer (some ⟨rb, 0, none⟩)) from by unfold World.cell? at hc ⊢; rw [B1.block cb hlt hne]; exact hc))
    | (go_at_call 87; refine (Err_any rb b2 b3 _ hR1).mono ?_; rintro e w4 ⟨rfl, hw4⟩; subst w4))
  go_ret2
  exact ⟨_, rfl, hb1, ⟨hR1, cB, hne, Nat.lt_of_lt_of_le hlt B1.size⟩, B1⟩
end Go.Proofs.YthecngkdmnadoaaGreat
