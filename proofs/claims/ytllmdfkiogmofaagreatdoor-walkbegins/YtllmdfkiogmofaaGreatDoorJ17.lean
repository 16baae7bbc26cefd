/- Texts that were written apart, joined. -/
import Derived.Test.YtllmdfkiogmofaaGreatDoorJ16
import Derived.Test.YtllmdfkiogmofaaGreatDoorJ2
import Derived.Test.YtllmdfkiogmofaaGreatDoorJ5
import Derived.Deep.QuietTactic
import Derived.BigQuiet
import Derived.Test.YtllmdfkiogmofaaGreatDoorJ9
/- The reference's Word: it tells just the words that 'wordB' tells. -/
namespace Go.Proofs.YtllmdfkiogmofaaGreatDoor
open Go.RowKit Nums
set_option maxRecDepth 100000

set_option maxHeartbeats 2000000 in
theorem RefWord_any (s : ByteArray) (w : World) (hm : s.size ≤ 9223372036854775807) :
    Calls Tryz.prog 65 #[.string s] w fun e w' => e = .returned (.bool (wordB s.data.toList)) ∧ Below w.heap.size w w' := by
  by_cases hs : 96 < s.size
  · have HF : Hid (wordB s.data.toList = false) := word_far (by rw [size_length]; exact hs)
    go_enter Tryz.func65, Tryz.ntmps65
    go_wp2
    go_ret
    exact ⟨by rw [HF.out]; rfl, Below.refl _ _⟩
  have HROOM : Hid (Room s.data.toList) := room_of_length (by rw [size_length]; omega)
  go_enter Tryz.func65, Tryz.ntmps65
  go_wp2_with fail
  refine (RefRunes_any s _ hm HROOM.out).mono ?_
  rintro e w1 ⟨v1, hb1, ⟨hr, rfl, rfl⟩ | ⟨xs, hr, rfl, hmade⟩⟩
  · have HF : Hid (wordB s.data.toList = false) := by show wordB _ = _; unfold wordB; rw [hr]
    clear hr
    go_wp2
    refine wp_loop_rounds 1 ?_
    rw [rounds_succ]
    go_wp2
    go_ret
    exact ⟨by rw [HF.out]; rfl, hb1⟩
  have HR : Hid (rs s.data.toList = some xs) := hr
  have hlen := (rs_len hr).2
  rw [size_length] at hlen
  clear hr
  obtain ⟨ao, cap, rfl, hc⟩ := hmade.row
  have HC : Hid (0 < xs.length → ∃ b off, ao = some ⟨b, off, none⟩ ∧ ∀ i, i < xs.length → w1.cell? ⟨b, off + i, none⟩ = some (.int .i32 (xs.getD i 0))) := hc
  clear hc hmade
  go_wp2
  go_loop [5] (fun i => ∃ k : Nat, k ≤ xs.length ∧ i = .int .i64 k ∧ (xs.take k).all vis = true) (fun i => xs.length - (intOf i).toNat)
  case atStart => exact ⟨0, Nat.zero_le _, rfl, rfl⟩
  case round =>
    obtain ⟨k, hk, rfl, hall⟩ := hrel
    have HA : Hid ((xs.take k).all vis = true) := hall
    clear hall
    by_cases hlt : k < xs.length
    · obtain ⟨b, off, rfl, hc⟩ := HC.out (by omega)
      have hck := hc k hlt
      clear hc HC
      generalize hx : xs.getD k 0 = x at *
      have HX : Hid (xs.getD k 0 = x) := hx
      clear hx
      by_cases h32 : x ≤ 32
      · have HF : Hid (wordB s.data.toList = false) := word_blind HR.out hlt (by rw [HX.out]; simp [vis]; omega)
        go_wp2
        go_ret
        exact ⟨by rw [HF.out]; rfl, hb1⟩
      by_cases h127 : x = 127
      · have HF : Hid (wordB s.data.toList = false) := word_blind HR.out hlt (by rw [HX.out]; simp [vis]; omega)
        have h127' : (x == 127) = true := beq_iff_eq.2 h127
        clear h127
        go_wp2
        go_ret
        exact ⟨by rw [HF.out]; rfl, hb1⟩
      · have h127' : (x == 127) = false := beq_eq_false_iff_ne.2 h127
        have HV : Hid (vis x = true) := by show vis x = true; simp [vis]; omega
        go_wp2
        go_round
        case rel => exact ⟨k + 1, by omega, by go_num, all_next hlt HA.out (by rw [HX.out]; exact HV.out)⟩
        case measure => simp [intOf]; omega
    · obtain rfl : k = xs.length := by omega
      have HF : Hid (wordB s.data.toList = (decide (1 ≤ xs.length) && decide (xs.length ≤ 24))) := word_of HR.out (by have := HA.out; rwa [List.take_length] at this)
      by_cases h1 : 1 ≤ xs.length
      · by_cases h24 : xs.length ≤ 24
        all_goals
          go_wp2
          go_ret
          refine ⟨?_, hb1⟩
          rw [HF.out]
          simp [h1, h24]
          omega
      · go_wp2
        go_ret
        refine ⟨?_, hb1⟩
        rw [HF.out]
        simp [h1]
end Go.Proofs.YtllmdfkiogmofaaGreatDoor

/- The reference's Ahead: which of two words is ahead. -/
namespace Go.Proofs.YtllmdfkiogmofaaGreatDoor
open Go.RowKit Nums
set_option maxRecDepth 100000

theorem drewN3 (w : World) (a b c : Nat) : ∃ n, ((w.drewN a).drewN b).drewN c = w.drewN n := ⟨a + (b + c), by rw [World.drewN_drewN, World.drewN_drewN]⟩
set_option maxHeartbeats 2000000 in
theorem Ahead_any (a b : ByteArray) (w : World) (ha : a.size ≤ 9223372036854775807) (_ : b.size ≤ 9223372036854775807) :
    Calls Tryz.prog 66 #[.string a, .string b] w fun e w' => e = .returned (.bool (lexL (a.data.toList.map N) (b.data.toList.map N))) ∧ ∃ n, w' = w.drewN n := by
  have HA : Hid (∀ i (h : i < a.size), ((a[i]'h).toNat : Int) = bt a.data.toList i) := bt_get a
  have HB : Hid (∀ i (h : i < b.size), ((b[i]'h).toNat : Int) = bt b.data.toList i) := bt_get b
  have HM : Hid ((a.data.toList.map N).length = a.size ∧ (b.data.toList.map N).length = b.size) := ⟨by rw [List.length_map, size_length], by rw [List.length_map, size_length]⟩
  go_enter Tryz.func66, Tryz.ntmps66
  go_wp2
  go_loopw [5] (fun i wr => ∃ k : Nat, k ≤ a.size ∧ k ≤ b.size ∧ i = .int .i64 k ∧ (∀ j, j < k → (a.data.toList.map N).getD j 0 = (b.data.toList.map N).getD j 0) ∧ ∃ n, wr = w.drewN n) (fun i _ => a.size - (intOf i).toNat)
  case atStart => exact ⟨0, Nat.zero_le _, Nat.zero_le _, rfl, fun j h => by omega, 0, rfl⟩
  case round =>
    obtain ⟨k, hk1, hk2, rfl, hall, nw, rfl⟩ := hrel
    have HK : Hid (∀ j, j < k → (a.data.toList.map N).getD j 0 = (b.data.toList.map N).getD j 0) := hall
    clear hall
    by_cases hlt1 : k < a.size
    · by_cases hlt2 : k < b.size
      · by_cases hxy : ((a[k]'hlt1).toNat : Int) = ((b[k]'hlt2).toNat : Int)
        · have hn : (((a[k]'hlt1).toNat : Int) != ((b[k]'hlt2).toNat : Int)) = false := by simpa using hxy
          have HB2 : Hid (∀ j, j < k + 1 → (a.data.toList.map N).getD j 0 = (b.data.toList.map N).getD j 0) := fun j h => by
            by_cases e : j = k
            · subst e; rw [bt_map, bt_map, ← HA.out j hlt1, ← HB.out j hlt2, hxy]
            · exact HK.out j (by omega)
          clear hxy
          go_wp2
          go_quiet (fail)
          go_wp2
          go_roundw
          case rel => exact ⟨k + 1, by omega, by omega, by go_num, HB2.out, _, rfl⟩
          case measure => simp [intOf]; omega
        · have hn : (((a[k]'hlt1).toNat : Int) != ((b[k]'hlt2).toNat : Int)) = true := by simpa using hxy
          have HF : Hid (lexL (a.data.toList.map N) (b.data.toList.map N) = decide (((a[k]'hlt1).toNat : Int) < ((b[k]'hlt2).toNat : Int))) := by
            show lexL _ _ = _
            rw [lexL_at k _ _ (by rw [HM.out.1]; exact hlt1) (by rw [HM.out.2]; exact hlt2) HK.out (by rw [bt_map, bt_map, ← HA.out k hlt1, ← HB.out k hlt2]; exact hxy), bt_map, bt_map, ← HA.out k hlt1, ← HB.out k hlt2]
          clear hxy
          go_wp2
          go_quiet (fail)
          go_wp2
          go_quiet (fail)
          go_wp2
          go_ret
          exact ⟨by rw [HF.out]; first | rfl | (simp; done), drewN3 _ _ _ _⟩
      · have HF : Hid (lexL (a.data.toList.map N) (b.data.toList.map N) = decide (a.size < b.size)) := by
          show lexL _ _ = _
          rw [lexL_end k _ _ (by rw [HM.out.1]; exact hk1) (by rw [HM.out.2]; exact hk2) HK.out (.inr (by rw [HM.out.2]; omega)), HM.out.1, HM.out.2]
        go_wp2
        go_ret
        exact ⟨by rw [HF.out]; first | rfl | (simp; done), _, by first | rfl | rw [World.drewN_drewN]⟩
    · have HF : Hid (lexL (a.data.toList.map N) (b.data.toList.map N) = decide (a.size < b.size)) := by
        show lexL _ _ = _
        rw [lexL_end k _ _ (by rw [HM.out.1]; exact hk1) (by rw [HM.out.2]; exact hk2) HK.out (.inl (by rw [HM.out.1]; omega)), HM.out.1, HM.out.2]
      go_wp2
      go_ret
      exact ⟨by rw [HF.out]; first | rfl | (simp; done), _, by first | rfl | rw [World.drewN_drewN]⟩

theorem ahead_any (a b : ByteArray) (w : World) (ha : a.size ≤ 9223372036854775807) (hb : b.size ≤ 9223372036854775807) :
    Calls Tryz.prog 66 #[.string a, .string b] w fun e w' => e = .returned (.bool (lessB a b)) ∧ ∃ n, w' = w.drewN n := by
  have h := Ahead_any a b w ha hb
  rw [← less_lex] at h
  exact h
end Go.Proofs.YtllmdfkiogmofaaGreatDoor

/- The reference's Build, over its Make. -/
namespace Go.Proofs.YtllmdfkiogmofaaGreatDoor
open Go.RowKit Nums Fm Pm
set_option maxRecDepth 100000

/-- What Make must say. -/
def MakeSays (v : Value) (l : List Pr) (w : World) : Prop :=
  Calls Tryz.prog 27 #[v] w fun e w' => ∃ base vs b, e = .returned (.agg #[.int .i64 base, vs]) ∧ BuildSays w w' l base vs b
theorem rbuild_results {tmps : Array Value} {w : World} {rb : Nat} {a b : Value} (h2 : tmps.getD 2 undef = .pointer (some ⟨rb, 0, none⟩)) (c0 : w.cell? ⟨rb, 0, none⟩ = some a) (c1 : w.cell? ⟨rb, 1, none⟩ = some b) : (results Tryz.f32 tmps).run Tryz.prog w = .ok (.tuple #[.agg #[a, b], tmps.getD 3 undef]) w := by
  have h2' : tmps[2]?.getD undef = .pointer (some ⟨rb, 0, none⟩) := by simpa using h2
  simp [results, Tryz.results32, go_sem, h2', c0, c1]
/-- The block of the result. -/
structure RBlk (rb : Nat) (w : World) : Prop where
  blk : w.heap[rb]? = some (.cells #[.int .i64 0, .slice none 0 0] 26)
theorem RBlk.facts {rb : Nat} {w : World} (h : RBlk rb w) : w.cell? ⟨rb, 0, none⟩ = some (.int .i64 0) ∧ w.cell? ⟨rb, 1, none⟩ = some (.slice none 0 0) ∧ ∀ o, w.frozen? ⟨rb, o, none⟩ = false := ⟨by simp [World.cell?, h.blk], by simp [World.cell?, h.blk], fun o => by simp [World.frozen?, h.blk]⟩
theorem RBlk.below {rb : Nat} {w w' : World} (h : RBlk rb w) (hb : Below w.heap.size w w') : RBlk rb w' := ⟨(hb.block rb (Array.getElem?_eq_some_iff.1 h.blk).1).trans h.blk⟩
theorem RBlk.lt {rb : Nat} {w : World} (h : RBlk rb w) : rb < w.heap.size := (Array.getElem?_eq_some_iff.1 h.blk).1
theorem StRow.same {B : Nat} {w w' : World} {vs : Value} {b : List St} (h : StRow B w vs b) (he : ∀ g, B ≤ g → w'.heap[g]? = w.heap[g]?) : StRow B w' vs b := by
  obtain ⟨xss, h1, h2, h3⟩ := h
  refine ⟨xss, h1.same fun g hg => he g (h1.block hg).1, h2, fun i s hi => ?_⟩
  obtain ⟨va, e1, e2⟩ := h3 i s hi
  exact ⟨va, e1, GOwn.same e2 fun g hg => he g (GOwn.block e2 hg).1⟩
set_option maxHeartbeats 4000000 in
theorem refBuild_any (w : World) (v : Value) (l : List Pr) (h : PRow w v l) (hsm : Sm l) (hmk : buildE l = 0 → ∀ w1, Below w.heap.size w w1 → MakeSays v l w1) :
    Calls Tryz.prog 32 #[v] w fun e w' => ∃ base vs b, e = .returned (.tuple #[.agg #[.int .i64 base, vs], .int .i64 (buildE l)]) ∧ BuildSays w w' l base vs b := by
  obtain ⟨ad, cap, rfl⟩ := h.form
  have HR : Hid (PRow w (.slice ad l.length cap) l) := h
  obtain ⟨n, hn⟩ : ∃ n, l.length = n := ⟨_, rfl⟩
  have HN : Hid (l.length = n) := hn
  have HS : Hid (Sm l) := hsm
  have HA : Hid (∀ o, Below w.heap.size w (w.alloc o)) := fun o => (Below.refl _ w).alloc (Nat.le_refl _) o
  rw [hn] at HR
  clear h hsm
  rw [hn] at hmk ⊢
  have HMK : Hid (buildE l = 0 → ∀ w1, Below w.heap.size w w1 → MakeSays (.slice ad n cap) l w1) := hmk
  obtain ⟨C, hC⟩ : ∃ C, buildE l = C := ⟨_, rfl⟩
  have HC : Hid (buildE l = C) := hC
  rw [hC]
  have HZ : Hid (C ≠ 0 → ∀ w', Below w.heap.size w w' → BuildSays w w' l 0 (.slice none 0 0) []) := fun h w' hb => by
    refine ⟨hb, StRow.nil _ _, ?_⟩
    rw [machOf, if_neg]
    rintro ⟨h1, _⟩
    exact h (HC.out.symm.trans h1)
  clear hmk
  by_cases hbig : 4096 < n
  · have hbz : (4096 : Int) < (n : Int) := by omega
    have hC70 : C = 70 := by rw [← hC, buildE, if_pos (by omega)]
    subst hC70
    clear hC hn
    go_enter Tryz.func32, Tryz.ntmps32
    go_wp2
    go_returns
    exact ⟨_, _, _, rfl, HZ.out (by decide) _ (HA.out _)⟩
  have hbz : ¬ (4096 : Int) < (n : Int) := by omega
  have hCf : faultF none l = C := by rw [← hC, buildE, if_neg (by omega)]
  have HF : Hid (faultF (prevAt l 0) (l.drop 0) = C) := hCf
  clear hC hCf hn
  go_enter Tryz.func32, Tryz.ntmps32
  obtain ⟨rb, hrb⟩ : ∃ rb, rb = w.heap.size := ⟨_, rfl⟩
  obtain ⟨w0, hw0⟩ : ∃ w0, w0 = w.alloc (.cells #[.int .i64 0, .slice none 0 0] 26) := ⟨_, rfl⟩
  have HB0 : Hid (Below w.heap.size w w0) := by show Below _ _ _; rw [hw0]; exact HA.out _
  have HR0 : Hid (RBlk rb w0) := ⟨by rw [hw0, hrb]; exact alloc_newP _ _⟩
  have HRB : Hid (w.heap.size ≤ rb) := by show _ ≤ _; rw [hrb]; exact Nat.le_refl _
  go_upto_region 1 with fail
  rw [← hw0, ← hrb]
  clear hw0 hrb
  go_wp2
  go_loopg [4, 5] n (fun g s4 _ wr => ∃ (k : Nat), s4 = .int .i64 k ∧ k ≤ n ∧ n - k ≤ g ∧ Hid (Below w.heap.size w wr) ∧ Hid (faultF (prevAt l k) (l.drop k) = C) ∧ Hid (RBlk rb wr))
  case atStart => exact ⟨0, rfl, Nat.zero_le _, by omega, HB0, HF, HR0⟩
  case round =>
    obtain ⟨k, rfl, hk, hg, HB, HK, HRW⟩ := hrel
    by_cases hlt : k < n
    · have hltz : (k : Int) < (n : Int) := by omega
      obtain ⟨x, hx⟩ : ∃ x, l[k]? = some x := ⟨l[k]'(by have := HN.out; omega), List.getElem?_eq_getElem _⟩
      obtain ⟨b, off, rfl, hb, hcell⟩ := (HR.out.below HB.out).at (by omega)
      obtain ⟨c0, c1⟩ := hcell k x hx
      have HX : Hid (l[k]? = some x) := hx
      have hw := fun (W : World) => RefWord_any x.1 W (HS.out.at hx)
      by_cases hk0 : k = 0
      · have HF2 : Hid (∀ (W : World), Below wr.heap.size wr W → W.cell? ⟨b, off + k * 2, none⟩ = some (.string x.1) ∧ W.cell? ⟨b, off + k * 2 + 1, none⟩ = some (.int .i64 x.2) ∧ True ∧ Hid (Below w.heap.size w W) ∧ Hid (RBlk rb W) ∧ W.cell? ⟨rb, 0, none⟩ = some (.int .i64 0) ∧ W.cell? ⟨rb, 1, none⟩ = some (.slice none 0 0) ∧ ∀ o, W.frozen? ⟨rb, o, none⟩ = false) := fun W e => ⟨(e.cell (p := ⟨b, off + k * 2, none⟩) hb).trans c0, (e.cell (p := ⟨b, off + k * 2 + 1, none⟩) hb).trans c1, trivial, HB.out.trans (e.mono HB.out.size), HRW.out.below e, (HRW.out.below e).facts⟩
        have hgd : decide (0 < k) = false := decide_eq_false (by omega)
        have hk0z : ¬ (0 : Int) < (k : Int) := by omega
        have HP0 : Hid (prevOk (prevAt l k) x = true) := by show _ = _; rw [hk0]; rfl
        cases hwd : wordB x.1.data.toList
        · have HE : Hid (C = 71) := by show _ = _; rw [← HK.out]; exact fault_bad hx (one_word hwd) (by decide)
          rw [hwd] at hw
          clear hcell hx hwd hk0
          go_wp2_with (go_at_call 65; refine (hw _).mono ?_; rintro e w2 ⟨rfl, hq⟩; obtain ⟨q0, q1, q2, HBq, HRq, z0, z1, z2⟩ := HF2.out _ hq; clear hq)
          try simp only [Exit.inBlock, Exit.then]
          refine bodyPost_ret (rbuild_results rfl (two_set HRq.out.blk _ _).1 (two_set HRq.out.blk _ _).2) rfl ?_
          exact ⟨_, _, _, by rw [HE.out]; rfl, HZ.out (by rw [HE.out]; decide) _ ((HBq.out.setCell HRB.out _).setCell HRB.out _)⟩
        · rw [hwd] at hw
          by_cases hlo : x.2 < 1
          · have HE : Hid (C = 72) := by show _ = _; rw [← HK.out]; exact fault_bad hx (one_low hwd hlo) (by decide)
            clear hcell hx hwd hk0
            go_wp2_with (go_at_call 65; refine (hw _).mono ?_; rintro e w2 ⟨rfl, hq⟩; obtain ⟨q0, q1, q2, HBq, HRq, z0, z1, z2⟩ := HF2.out _ hq; clear hq)
            try simp only [Exit.inBlock, Exit.then]
            refine bodyPost_ret (rbuild_results rfl (two_set HRq.out.blk _ _).1 (two_set HRq.out.blk _ _).2) rfl ?_
            exact ⟨_, _, _, by rw [HE.out]; rfl, HZ.out (by rw [HE.out]; decide) _ ((HBq.out.setCell HRB.out _).setCell HRB.out _)⟩
          · by_cases hhi : 1048576 < x.2
            · have HE : Hid (C = 72) := by show _ = _; rw [← HK.out]; exact fault_bad hx (one_high hwd hhi) (by decide)
              clear hcell hx hwd hk0
              go_wp2_with (go_at_call 65; refine (hw _).mono ?_; rintro e w2 ⟨rfl, hq⟩; obtain ⟨q0, q1, q2, HBq, HRq, z0, z1, z2⟩ := HF2.out _ hq; clear hq)
              try simp only [Exit.inBlock, Exit.then]
              refine bodyPost_ret (rbuild_results rfl (two_set HRq.out.blk _ _).1 (two_set HRq.out.blk _ _).2) rfl ?_
              exact ⟨_, _, _, by rw [HE.out]; rfl, HZ.out (by rw [HE.out]; decide) _ ((HBq.out.setCell HRB.out _).setCell HRB.out _)⟩
            · have HK2 : Hid (faultF (prevAt l (k + 1)) (l.drop (k + 1)) = C) := by show _ = _; rw [← HK.out]; exact (fault_step HX.out (one_ok hwd hlo hhi HP0.out)).symm
              clear hcell hx hwd hk0
              go_wp2_with (go_at_call 65; refine (hw _).mono ?_; rintro e w2 ⟨rfl, hq⟩; obtain ⟨q0, q1, q2, HBq, HRq, z0, z1, z2⟩ := HF2.out _ hq; clear hq)
              go_quiet (fail)
              go_wp2
              go_roundg (n - (k + 1))
              case measure => omega
              case rel => exact ⟨k + 1, by go_num, by omega, Nat.le_refl _, belowN HBq.out nq, HK2, ⟨HRq.out.blk⟩⟩
      · obtain ⟨kp, hkp⟩ : ∃ kp, kp + 1 = k := ⟨k - 1, by omega⟩
        have hk0z : (0 : Int) < (k : Int) := by omega
        have hgd : decide (0 < k) = true := decide_eq_true (by omega)
        have ekp : (k : Int) - 1 = (kp : Int) := by omega
        obtain ⟨y, hy⟩ : ∃ y, l[kp]? = some y := ⟨l[kp]'(by have := HN.out; omega), List.getElem?_eq_getElem _⟩
        obtain ⟨d0, d1⟩ := hcell kp y hy
        have rkp : IntKind.i64.wrap (kp : Int) = (kp : Int) := by rw [IntKind.wrap_i64]; omega
        have pkp : (0 : Int) ≤ (kp : Int) := by omega
        have bkp : (kp : Int) < (n : Int) := by omega
        have tkp : (kp : Int).toNat = kp := by omega
        have pk : (0 : Int) ≤ (k : Int) := by omega
        have tk : (k : Int).toNat = k := by omega
        have hls := fun W => ahead_any y.1 x.1 W (HS.out.at hy) (HS.out.at hx)
        have HF2 : Hid (∀ (W : World), Below wr.heap.size wr W → W.cell? ⟨b, off + k * 2, none⟩ = some (.string x.1) ∧ W.cell? ⟨b, off + k * 2 + 1, none⟩ = some (.int .i64 x.2) ∧ W.cell? ⟨b, off + kp * 2, none⟩ = some (.string y.1) ∧ Hid (Below w.heap.size w W) ∧ Hid (RBlk rb W) ∧ W.cell? ⟨rb, 0, none⟩ = some (.int .i64 0) ∧ W.cell? ⟨rb, 1, none⟩ = some (.slice none 0 0) ∧ ∀ o, W.frozen? ⟨rb, o, none⟩ = false) := fun W e => ⟨(e.cell (p := ⟨b, off + k * 2, none⟩) hb).trans c0, (e.cell (p := ⟨b, off + k * 2 + 1, none⟩) hb).trans c1, (e.cell (p := ⟨b, off + kp * 2, none⟩) hb).trans d0, HB.out.trans (e.mono HB.out.size), HRW.out.below e, (HRW.out.below e).facts⟩
        have HPR : Hid (prevOk (prevAt l k) x = lessB y.1 x.1) := by show _ = _; rw [← hkp, prevAt, hy]; rfl
        cases hwd : wordB x.1.data.toList
        · have HE : Hid (C = 71) := by show _ = _; rw [← HK.out]; exact fault_bad hx (one_word hwd) (by decide)
          rw [hwd] at hw
          clear hcell hx hwd hk0 hkp hy
          go_wp2_with (go_at_call 65; refine (hw _).mono ?_; rintro e w2 ⟨rfl, hq⟩; obtain ⟨q0, q1, q2, HBq, HRq, z0, z1, z2⟩ := HF2.out _ hq; clear hq)
          try simp only [Exit.inBlock, Exit.then]
          refine bodyPost_ret (rbuild_results rfl (two_set HRq.out.blk _ _).1 (two_set HRq.out.blk _ _).2) rfl ?_
          exact ⟨_, _, _, by rw [HE.out]; rfl, HZ.out (by rw [HE.out]; decide) _ ((HBq.out.setCell HRB.out _).setCell HRB.out _)⟩
        · rw [hwd] at hw
          by_cases hlo : x.2 < 1
          · have HE : Hid (C = 72) := by show _ = _; rw [← HK.out]; exact fault_bad hx (one_low hwd hlo) (by decide)
            clear hcell hx hwd hk0 hkp hy
            go_wp2_with (go_at_call 65; refine (hw _).mono ?_; rintro e w2 ⟨rfl, hq⟩; obtain ⟨q0, q1, q2, HBq, HRq, z0, z1, z2⟩ := HF2.out _ hq; clear hq)
            try simp only [Exit.inBlock, Exit.then]
            refine bodyPost_ret (rbuild_results rfl (two_set HRq.out.blk _ _).1 (two_set HRq.out.blk _ _).2) rfl ?_
            exact ⟨_, _, _, by rw [HE.out]; rfl, HZ.out (by rw [HE.out]; decide) _ ((HBq.out.setCell HRB.out _).setCell HRB.out _)⟩
          · by_cases hhi : 1048576 < x.2
            · have HE : Hid (C = 72) := by show _ = _; rw [← HK.out]; exact fault_bad hx (one_high hwd hhi) (by decide)
              clear hcell hx hwd hk0 hkp hy
              go_wp2_with (go_at_call 65; refine (hw _).mono ?_; rintro e w2 ⟨rfl, hq⟩; obtain ⟨q0, q1, q2, HBq, HRq, z0, z1, z2⟩ := HF2.out _ hq; clear hq)
              try simp only [Exit.inBlock, Exit.then]
              refine bodyPost_ret (rbuild_results rfl (two_set HRq.out.blk _ _).1 (two_set HRq.out.blk _ _).2) rfl ?_
              exact ⟨_, _, _, by rw [HE.out]; rfl, HZ.out (by rw [HE.out]; decide) _ ((HBq.out.setCell HRB.out _).setCell HRB.out _)⟩
            · cases hyx : lessB y.1 x.1
              · have HE : Hid (C = 73) := by show _ = _; rw [← HK.out]; exact fault_bad hx (one_late hwd hlo hhi (HPR.out.trans hyx)) (by decide)
                rw [hyx] at hls
                clear hcell hx hkp hy hyx hk0 hwd
                go_wp2_with (go_at_call 65; refine (hw _).mono ?_; rintro e w2 ⟨rfl, hq⟩; obtain ⟨q0, q1, q2, HBq, HRq, z0, z1, z2⟩ := HF2.out _ hq; clear hq)
                go_quiet (first | (go_at_call 66; refine Calls.quiet_of (hls _)))
                go_wp2
                have HRq' : RBlk rb (w2.drewN nq) := ⟨HRq.out.blk⟩
                try simp only [Exit.inBlock, Exit.then]
                refine bodyPost_ret (rbuild_results rfl (two_set HRq'.blk _ _).1 (two_set HRq'.blk _ _).2) rfl ?_
                exact ⟨_, _, _, by rw [HE.out]; rfl, HZ.out (by rw [HE.out]; decide) _ (((belowN HBq.out nq).setCell HRB.out _).setCell HRB.out _)⟩
              · have HK2 : Hid (faultF (prevAt l (k + 1)) (l.drop (k + 1)) = C) := by show _ = _; rw [← HK.out]; exact (fault_step HX.out (one_ok hwd hlo hhi (HPR.out.trans hyx))).symm
                rw [hyx] at hls
                clear hcell hx hkp hy hyx hk0 hwd
                go_wp2_with (go_at_call 65; refine (hw _).mono ?_; rintro e w2 ⟨rfl, hq⟩; obtain ⟨q0, q1, q2, HBq, HRq, z0, z1, z2⟩ := HF2.out _ hq; clear hq)
                go_quiet (first | (go_at_call 66; refine Calls.quiet_of (hls _)))
                go_wp2
                go_roundg (n - (k + 1))
                case measure => omega
                case rel => exact ⟨k + 1, by go_num, by omega, Nat.le_refl _, belowN HBq.out nq, HK2, ⟨HRq.out.blk⟩⟩
    · have hltz : ¬ (k : Int) < (n : Int) := by omega
      have HE : Hid (C = 0) := by show _ = _; rw [← HK.out]; exact fault_end (by have := HN.out; omega)
      have HCALL := HMK.out (by rw [HC.out]; exact HE.out) wr HB.out
      unfold MakeSays at HCALL
      have hMC : Hid (Calls Tryz.prog 27 #[.slice ad n cap] wr fun e w' => ∃ base vs b, e = .returned (.agg #[.int .i64 base, vs]) ∧ BuildSays wr w' l base vs b) := HCALL
      clear HCALL
      go_upto_region 5 with fail
      refine hMC.out.mono ?_
      rintro e w5 ⟨base, vs, b, rfl, hS⟩
      obtain ⟨sd, sc, hvs⟩ := hS.row.shape
      obtain ⟨nb, hnb⟩ : ∃ nb, b.length = nb := ⟨_, rfl⟩
      rw [hnb] at hvs
      subst hvs
      clear hnb
      have hR5 := HRW.out.below hS.bel
      have HR5 : Hid (RBlk rb w5) := hR5
      obtain ⟨z0, z1, z2⟩ := hR5.facts
      have HS5 : Hid (BuildSays wr w5 l base (.slice sd nb sc) b) := hS
      clear hS hR5
      go_wp2
      try simp only [Exit.inBlock, Exit.then]
      refine bodyPost_ret (rbuild_results rfl (two_set HR5.out.blk _ _).1 (two_set HR5.out.blk _ _).2) rfl ?_
      have hb5 : Below w.heap.size w w5 := HB.out.trans (HS5.out.bel.mono HB.out.size)
      have hrl := HRW.out.lt
      have hkeep : ∀ x y, StRow w.heap.size ((w5.setCell ⟨rb, 0, none⟩ x).setCell ⟨rb, 1, none⟩ y) (.slice sd nb sc) b := fun x y =>
        (HS5.out.row.same fun g hg => by rw [set_other _ _ _ _ (by omega), set_other _ _ _ _ (by omega)]).mono HB.out.size
      exact ⟨_, _, _, by rw [HE.out]; rfl, (hb5.setCell HRB.out _).setCell HRB.out _, hkeep _ _, HS5.out.mach⟩
end Go.Proofs.YtllmdfkiogmofaaGreatDoor
