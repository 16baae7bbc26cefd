/- DiskFull. -/
import Derived.Test.YtlbpjfophgphaabAlive
namespace Go.Proofs.Ytlbpjfophgphaab
open Go.RowKit
set_option maxRecDepth 100000

theorem wr_perm {a n : Int} {v : List Nat} {S : List Sec} (h : findS a n S = none) : (wr a n v S).Perm (⟨a, n, none, [v]⟩ :: S) := by
  induction S with
  | nil => exact List.Perm.refl _
  | cons s r ih =>
    rw [findS] at h
    by_cases he : s.area = a ∧ s.n = n
    · rw [if_pos he] at h; cases h
    · rw [if_neg he] at h
      rw [wr, if_neg he]
      split
      · exact List.Perm.refl _
      · exact ((ih h).cons s).trans (List.Perm.swap _ _ _)
theorem cnt_perm {a : Int} {S T : List Sec} (h : S.Perm T) : cnt a S = cnt a T := (h.filter _).length_eq
/-- A disk on which n sectors were written, by turns into three areas. -/
def fillD (room : Int) : Nat → DS
  | 0 => newD room
  | n + 1 => wrD (fillD room n) ((n : Int) % 3) n []
structure Filled (room : Int) (n : Nat) (d : DS) : Prop where
  dead : d.dead = false
  armed : d.armed = false
  room : d.room = room
  len : d.secs.length = n
  at3 : ∀ s ∈ d.secs, s.area = s.n % 3 ∧ 0 ≤ s.n ∧ s.n < n
  zero : cnt 0 d.secs = (n + 2) / 3
theorem fill_find {room : Int} {n : Nat} {d : DS} (h : Filled room n d) (a k : Int) (hk : (n : Int) ≤ k ∨ a ≠ k % 3) : findS a k d.secs = none := by
  refine findS_none_of fun s hs e => ?_
  obtain ⟨h1, h2, h3⟩ := h.at3 s hs
  rw [e.1, e.2] at h1
  rw [e.2] at h3
  omega
theorem fill_step {room : Int} {n : Nat} {d : DS} (h : Filled room n d) (hn : (n : Int) < room) (hn2 : n < 300) : wrE d ((n : Int) % 3) n [] = 0 ∧ Filled room (n + 1) (wrD d ((n : Int) % 3) n []) := by
  have hf := fill_find h ((n : Int) % 3) n (.inl (Int.le_refl _))
  have nf : ¬ formBad (n : Int) ([] : List Nat) := by unfold formBad; simp; omega
  have nl : ¬ fullBad d ((n : Int) % 3) n := fun hh => by
    have := hh.2
    rw [h.room, h.len] at this
    omega
  have nd : ¬ d.dead = true := by rw [h.dead]; simp
  have e : wrD d ((n : Int) % 3) n [] = { stepD d with secs := wr ((n : Int) % 3) n (pad []) d.secs } := by rw [wrD, if_neg nd, if_neg nf, if_neg nl]
  have es : stepD d = { d with steps := d.steps + 1 } := by rw [stepD, if_neg nd, if_pos (by rw [h.armed]; rfl)]
  have hp := wr_perm (v := pad []) hf
  refine ⟨by rw [wrE, if_neg nd, if_neg nf, if_neg nl, stepE, if_neg nd, h.armed]; rfl, ?_⟩
  rw [e, es]
  refine ⟨h.dead, h.armed, h.room, ?_, fun s hs => ?_, ?_⟩
  · show (wr _ _ _ _).length = _
    rw [hp.length_eq, List.length_cons, h.len]
  · rcases List.mem_cons.1 (hp.mem_iff.1 hs) with rfl | hs
    · exact ⟨rfl, by simp, by simp; omega⟩
    · have := h.at3 s hs
      exact ⟨this.1, this.2.1, by omega⟩
  · show cnt 0 (wr _ _ _ _) = _
    rw [cnt_perm hp]
    have hz := h.zero
    unfold cnt at *
    by_cases e0 : (n : Int) % 3 = 0
    · rw [List.filter_cons_of_pos (by simpa using e0), List.length_cons, hz]; omega
    · rw [List.filter_cons_of_neg (by simpa using e0), hz]; omega
theorem fill_ok (room : Int) (h0 : 0 ≤ room) (h3 : room ≤ 300) : ∀ n : Nat, (n : Int) ≤ room → Filled room n (fillD room n)
  | 0, _ => ⟨rfl, rfl, by show max room 0 = room; omega, rfl, fun s hs => (by cases hs), rfl⟩
  | n + 1, h => (fill_step (fill_ok room h0 h3 n (by omega)) (by omega) (by omega)).2
theorem nil_row (fp : List Nat) (w : World) : RowX fp w (.slice none 0 0) [] := ⟨⟨none, 0, rfl, Nat.le_refl _, fun _ => rfl, fun h => by simp at h⟩, fun b off len cap e => by cases e⟩
set_option maxHeartbeats 4000000 in
theorem DiskFull_small (room : Int) (w : World) (h0 : 0 ≤ room) (h3 : room ≤ 300) :
    Calls Try.prog 4 #[.int .i64 room] w fun e w' => e = .returned (.bool true) ∧ Below w.heap.size w w' := by
  go_enter Try.func4, Try.ntmps4
  go_wp2_with fail
  refine (New_any room w (by omega) (by omega)).mono ?_
  rintro e w1 ⟨p, fp, rfl, hd1, hb1, hf1⟩
  have HD1 : Hid (DiskAt 0 w1 p (newD room) fp) := hd1
  have HB1 : Hid (Below w.heap.size w w1) := hb1
  have HF1 : Hid (∀ b ∈ fp, w.heap.size ≤ b) := hf1
  clear hd1 hb1 hf1
  go_wp2_with fail
  refine (alive_any w1).mono ?_
  rintro e w2 ⟨rfl, hb2⟩
  have HD2 : Hid (DiskAt 0 w2 p (newD room) fp) := HD1.out.below hb2
  have HB2 : Hid (Below w.heap.size w w2) := HB1.out.trans (hb2.mono HB1.out.size)
  clear hb2
  go_wp2_with fail
  go_loopw [23] (fun v wr => ∃ (k : Nat) (fq : List Nat), v = .int .i64 k ∧ (k : Int) ≤ room ∧ DiskAt k wr p (fillD room k) fq ∧ Below w.heap.size w wr ∧ ∀ b ∈ fq, w.heap.size ≤ b) (fun v _ => (room - intOf v).toNat)
  case atStart => exact ⟨0, fp, rfl, h0, HD2.out, HB2.out, HF1.out⟩
  case round =>
    obtain ⟨k, fq, rfl, hk, hd, hb, hf⟩ := hrel
    have hfil := fill_ok room h0 h3 k hk
    have HD : Hid (DiskAt k wr p (fillD room k) fq) := hd
    have HB : Hid (Below w.heap.size w wr) := hb
    have HF : Hid (∀ b ∈ fq, w.heap.size ≤ b) := hf
    have HFil : Hid (Filled room k (fillD room k)) := hfil
    clear hd hb hf hfil
    by_cases hlt : (k : Int) < room
    · have hst := fill_step HFil.out hlt (by omega)
      have HE : Hid (wrE (fillD room k) ((k : Int) % 3) k [] = 0) := hst.1
      clear hst
      go_wp2_with fail
      refine (Write_any k p (fillD room k) fq _ _ _ [] wr HD.out (nil_row _ _) (by simp) (by omega)).mono ?_
      rintro e w3 ⟨rfl, fq', hd', ho', hf'⟩
      rw [HE.out]
      have HD3 : Hid (DiskAt (k + 1) w3 p (fillD room (k + 1)) fq') := hd'
      have HB3 : Hid (Below w.heap.size w w3) := HB.out.trans (ho'.below HB.out.size HF.out)
      have hsz := HB.out.size
      have HF3 : Hid (∀ b ∈ fq', w.heap.size ≤ b) := fun b hb => by
        rcases hf' b hb with h | h
        · exact HF.out b h
        · omega
      clear hd' ho' hf'
      go_wp2_with fail
      go_roundw
      case rel => exact ⟨k + 1, fq', by go_num, by omega, HD3.out, HB3.out, HF3.out⟩
      case measure => simp [intOf]; omega
    · have hkr : (k : Int) = room := by omega
      have hfil := HFil.out
      generalize fillD room k = dd at *
      have h1 : dd.room - (dd.secs.length : Int) = 0 := by rw [hfil.room, hfil.len]; omega
      have nd : ¬ dd.dead = true := by rw [hfil.dead]; simp
      have hfull : fullBad dd 9 9 := ⟨by rw [fill_find hfil 9 9 (.inr (by decide))]; rfl, by omega⟩
      have nf : ¬ formBad (9 : Int) ([] : List Nat) := by decide
      have hE2 : wrE dd 9 9 [] = 32 := by rw [wrE, if_neg nd, if_neg nf, if_pos hfull]
      have hD2 : wrD dd 9 9 [] = dd := by rw [wrD, if_neg nd, if_neg nf, if_pos hfull]
      have hse : stepE dd = 0 := by rw [stepE, if_neg nd, hfil.armed]; rfl
      have hsd : stepD dd = { dd with steps := dd.steps + 1 } := by rw [stepD, if_neg nd, if_pos (by rw [hfil.armed]; rfl)]
      have hfd : frD dd 0 = { dd with steps := dd.steps + 1, secs := fr 0 dd.secs } := by rw [frD, if_pos hse, hsd]
      have hfl := fr_len 0 dd.secs
      have hz := hfil.zero
      have hrm : (frD dd 0).room - ((frD dd 0).secs.length : Int) = (room + 2) / 3 := by
        rw [hfd]
        show dd.room - ((fr 0 dd.secs).length : Int) = _
        rw [hfil.room]
        have := hfil.len
        omega
      have H1 : Hid (dd.room - (dd.secs.length : Int) = 0) := h1
      have HE2 : Hid (wrE dd 9 9 [] = 32) := hE2
      have HD2' : Hid (wrD dd 9 9 [] = dd) := hD2
      have HSE : Hid (stepE dd = 0) := hse
      have HRM : Hid ((frD dd 0).room - ((frD dd 0).secs.length : Int) = (room + 2) / 3) := hrm
      have HLast : Hid (room ≠ 0 → wrE (frD dd 0) 9 9 [] = 0) := fun hr => by
        have e1 : ¬ (frD dd 0).dead = true := by rw [hfd]; exact nd
        have e2 : ¬ fullBad (frD dd 0) 9 9 := fun hh => by
          have := hh.2
          omega
        rw [wrE, if_neg e1, if_neg nf, if_neg e2, stepE, if_neg e1]
        have e3 : (frD dd 0).armed = false := by rw [hfd]; exact hfil.armed
        rw [e3]; rfl
      clear h1 nd hfull nf hE2 hD2 hse hsd hfd hfl hz hrm hfil HFil
      go_wp2_with fail
      refine (Room_any k p dd fq wr HD.out).mono ?_
      rintro e w3 ⟨rfl, n3, rfl⟩
      rw [H1.out]
      go_wp2_with fail
      have hd3 : DiskAt k (wr.drewN n3) p dd fq := HD.out.same fun _ _ => rfl
      refine (Write_any k p dd fq _ _ _ [] (wr.drewN n3) hd3 (nil_row _ _) (by simp) (by omega)).mono ?_
      rintro e w4 ⟨rfl, fq4, hd4, ho4, hf4⟩
      rw [HD2'.out] at hd4
      have HD4 : Hid (DiskAt (k + 1) w4 p dd fq4) := hd4
      have hb3 : Below w.heap.size w (wr.drewN n3) := below_drewN HB.out n3
      have HB4 : Hid (Below w.heap.size w w4) := hb3.trans (ho4.below hb3.size HF.out)
      have hsz := hb3.size
      have HF4 : Hid (∀ b ∈ fq4, w.heap.size ≤ b) := fun b hb => by
        rcases hf4 b hb with h | h
        · exact HF.out b h
        · omega
      rw [HE2.out]
      clear hd3 hd4 ho4 hf4 hb3 hsz
      go_wp2_with fail
      refine (Free_any (k + 1) p dd fq4 0 w4 HD4.out (by omega)).mono ?_
      rintro e w5 ⟨rfl, fq5, hd5, ho5, hf5⟩
      have HD5 : Hid (DiskAt (k + 1 + 1) w5 p (frD dd 0) fq5) := hd5
      have HB5 : Hid (Below w.heap.size w w5) := HB4.out.trans (ho5.below HB4.out.size HF4.out)
      have HF5 : Hid (∀ b ∈ fq5, w.heap.size ≤ b) := fun b hb => HF4.out b (hf5 b hb)
      rw [frE, HSE.out]
      clear hd5 ho5 hf5
      go_wp2_with fail
      refine (Room_any (k + 1 + 1) p (frD dd 0) fq5 w5 HD5.out).mono ?_
      rintro e w6 ⟨rfl, n6, rfl⟩
      rw [HRM.out]
      have HD6 : Hid (DiskAt (k + 1 + 1) (w5.drewN n6) p (frD dd 0) fq5) := HD5.out.same fun _ _ => rfl
      have HB6 : Hid (Below w.heap.size w (w5.drewN n6)) := below_drewN HB5.out n6
      by_cases hr0 : room = 0
      · subst hr0
        go_wp2_with fail
        go_ret
        exact ⟨rfl, HB6.out⟩
      · have hrb : (room == 0) = false := by simpa using hr0
        have HE3 : Hid (wrE (frD dd 0) 9 9 [] = 0) := HLast.out hr0
        clear hr0
        go_wp2_with fail
        refine (Write_any (k + 1 + 1) p (frD dd 0) fq5 _ _ _ [] (w5.drewN n6) HD6.out (nil_row _ _) (by simp) (by omega)).mono ?_
        rintro e w7 ⟨rfl, fq7, hd7, ho7, hf7⟩
        have HB7 : Hid (Below w.heap.size w w7) := HB6.out.trans (ho7.below HB6.out.size HF5.out)
        rw [HE3.out]
        clear hd7 ho7 hf7
        go_wp2_with fail
        go_ret
        exact ⟨rfl, HB7.out⟩
set_option maxHeartbeats 4000000 in
theorem DiskFull_walk (room : Int) (w : World) : Calls Try.prog 4 #[.int .i64 room] w fun e w' => e = .returned (.bool true) ∧ Below w.heap.size w w' := by
  by_cases h : 0 ≤ room ∧ room ≤ 300
  · exact DiskFull_small room w h.1 h.2
  · by_cases h1 : room < 0
    · clear h
      go_enter Try.func4, Try.ntmps4
      go_wp2_with fail
      refine (alive_any w).mono ?_
      rintro e w2 ⟨rfl, hb2⟩
      go_wp2_with fail
      go_ret
      exact ⟨rfl, hb2⟩
    · have h2 : 300 < room := by omega
      clear h
      go_enter Try.func4, Try.ntmps4
      go_wp2_with fail
      refine (alive_any w).mono ?_
      rintro e w2 ⟨rfl, hb2⟩
      go_wp2_with fail
      go_ret
      exact ⟨rfl, hb2⟩
theorem full_walk (room : Int) (w : World) (_ : -9223372036854775808 ≤ room) (_ : room ≤ 9223372036854775807) : Calls Try.prog 4 #[.int .i64 room] w fun e w' => e = .returned (.bool true) ∧ Below w.heap.size w w' := DiskFull_walk room w
end Go.Proofs.Ytlbpjfophgphaab
