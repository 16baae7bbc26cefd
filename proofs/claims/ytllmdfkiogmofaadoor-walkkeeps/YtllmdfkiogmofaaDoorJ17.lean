/- Texts that were written apart, joined. -/
import Derived.Test.YtllmdfkiogmofaaDoorJ16
import Derived.Test.YtllmdfkiogmofaaDoorJ2
import Derived.Test.YtllmdfkiogmofaaDoorJ5
import Derived.Deep.QuietTactic
import Derived.BigQuiet
import Derived.Test.YtllmdfkiogmofaaDoorJ9
/- The reference's Word: it tells just the words that 'wordB' tells. -/
namespace Go.Proofs.YtllmdfkiogmofaaDoor
open Go.RowKit Nums
set_option maxRecDepth 100000

set_option maxHeartbeats 2000000 in
theorem RefWord_any (s : ByteArray) (w : World) (hm : s.size ≤ 9223372036854775807) :
    Calls Tryd.prog 12 #[.string s] w fun e w' => e = .returned (.bool (wordB s.data.toList)) ∧ Below w.heap.size w w' := by
  by_cases hs : 96 < s.size
  · have HF : Hid (wordB s.data.toList = false) := word_far (by rw [size_length]; exact hs)
    go_enter Tryd.func12, Tryd.ntmps12
    go_wp2
    go_ret
    exact ⟨by rw [HF.out]; rfl, Below.refl _ _⟩
  have HROOM : Hid (Room s.data.toList) := room_of_length (by rw [size_length]; omega)
  go_enter Tryd.func12, Tryd.ntmps12
  go_wp2_with fail
  refine (RefRunes_any s _ hm HROOM.out).mono ?_
  rintro e w1 ⟨v1, hb1, ⟨hr, rfl, rfl⟩ | ⟨xs, hr, rfl, hmade⟩⟩
  · have HF : Hid (wordB s.data.toList = false) := by show wordB _ = _; unfold wordB; rw [hr]
    clear hr
    go_wp2
    refine wp_loop_rounds 1 ?_
    rw [rounds_succ]
    go_wp2
    go_ret
    exact ⟨by rw [HF.out]; rfl, hb1⟩
  have HR : Hid (rs s.data.toList = some xs) := hr
  have hlen := (rs_len hr).2
  rw [size_length] at hlen
  clear hr
  obtain ⟨ao, cap, rfl, hc⟩ := hmade.row
  have HC : Hid (0 < xs.length → ∃ b off, ao = some ⟨b, off, none⟩ ∧ ∀ i, i < xs.length → w1.cell? ⟨b, off + i, none⟩ = some (.int .i32 (xs.getD i 0))) := hc
  clear hc hmade
  go_wp2
  go_loop [5] (fun i => ∃ k : Nat, k ≤ xs.length ∧ i = .int .i64 k ∧ (xs.take k).all vis = true) (fun i => xs.length - (intOf i).toNat)
  case atStart => exact ⟨0, Nat.zero_le _, rfl, rfl⟩
  case round =>
    obtain ⟨k, hk, rfl, hall⟩ := hrel
    have HA : Hid ((xs.take k).all vis = true) := hall
    clear hall
    by_cases hlt : k < xs.length
    · obtain ⟨b, off, rfl, hc⟩ := HC.out (by omega)
      have hck := hc k hlt
      clear hc HC
      generalize hx : xs.getD k 0 = x at *
      have HX : Hid (xs.getD k 0 = x) := hx
      clear hx
      by_cases h32 : x ≤ 32
      · have HF : Hid (wordB s.data.toList = false) := word_blind HR.out hlt (by rw [HX.out]; simp [vis]; omega)
        go_wp2
        go_ret
        exact ⟨by rw [HF.out]; rfl, hb1⟩
      by_cases h127 : x = 127
      · have HF : Hid (wordB s.data.toList = false) := word_blind HR.out hlt (by rw [HX.out]; simp [vis]; omega)
        have h127' : (x == 127) = true := beq_iff_eq.2 h127
        clear h127
        go_wp2
        go_ret
        exact ⟨by rw [HF.out]; rfl, hb1⟩
      · have h127' : (x == 127) = false := beq_eq_false_iff_ne.2 h127
        have HV : Hid (vis x = true) := by show vis x = true; simp [vis]; omega
        go_wp2
        go_round
        case rel => exact ⟨k + 1, by omega, by go_num, all_next hlt HA.out (by rw [HX.out]; exact HV.out)⟩
        case measure => simp [intOf]; omega
    · obtain rfl : k = xs.length := by omega
      have HF : Hid (wordB s.data.toList = (decide (1 ≤ xs.length) && decide (xs.length ≤ 24))) := word_of HR.out (by have := HA.out; rwa [List.take_length] at this)
      by_cases h1 : 1 ≤ xs.length
      · by_cases h24 : xs.length ≤ 24
        all_goals
          go_wp2
          go_ret
          refine ⟨?_, hb1⟩
          rw [HF.out]
          simp [h1, h24]
          omega
      · go_wp2
        go_ret
        refine ⟨?_, hb1⟩
        rw [HF.out]
        simp [h1]
end Go.Proofs.YtllmdfkiogmofaaDoor

/- The reference's Ahead: which of two words is ahead. -/
namespace Go.Proofs.YtllmdfkiogmofaaDoor
open Go.RowKit Nums
set_option maxRecDepth 100000

theorem drewN3 (w : World) (a b c : Nat) : ∃ n, ((w.drewN a).drewN b).drewN c = w.drewN n := ⟨a + (b + c), by rw [World.drewN_drewN, World.drewN_drewN]⟩
set_option maxHeartbeats 2000000 in
theorem Ahead_any (a b : ByteArray) (w : World) (ha : a.size ≤ 9223372036854775807) (_ : b.size ≤ 9223372036854775807) :
    Calls Tryd.prog 13 #[.string a, .string b] w fun e w' => e = .returned (.bool (lexL (a.data.toList.map N) (b.data.toList.map N))) ∧ ∃ n, w' = w.drewN n := by
  have HA : Hid (∀ i (h : i < a.size), ((a[i]'h).toNat : Int) = bt a.data.toList i) := bt_get a
  have HB : Hid (∀ i (h : i < b.size), ((b[i]'h).toNat : Int) = bt b.data.toList i) := bt_get b
  have HM : Hid ((a.data.toList.map N).length = a.size ∧ (b.data.toList.map N).length = b.size) := ⟨by rw [List.length_map, size_length], by rw [List.length_map, size_length]⟩
  go_enter Tryd.func13, Tryd.ntmps13
  go_wp2
  go_loopw [5] (fun i wr => ∃ k : Nat, k ≤ a.size ∧ k ≤ b.size ∧ i = .int .i64 k ∧ (∀ j, j < k → (a.data.toList.map N).getD j 0 = (b.data.toList.map N).getD j 0) ∧ ∃ n, wr = w.drewN n) (fun i _ => a.size - (intOf i).toNat)
  case atStart => exact ⟨0, Nat.zero_le _, Nat.zero_le _, rfl, fun j h => by omega, 0, rfl⟩
  case round =>
    obtain ⟨k, hk1, hk2, rfl, hall, nw, rfl⟩ := hrel
    have HK : Hid (∀ j, j < k → (a.data.toList.map N).getD j 0 = (b.data.toList.map N).getD j 0) := hall
    clear hall
    by_cases hlt1 : k < a.size
    · by_cases hlt2 : k < b.size
      · by_cases hxy : ((a[k]'hlt1).toNat : Int) = ((b[k]'hlt2).toNat : Int)
        · have hn : (((a[k]'hlt1).toNat : Int) != ((b[k]'hlt2).toNat : Int)) = false := by simpa using hxy
          have HB2 : Hid (∀ j, j < k + 1 → (a.data.toList.map N).getD j 0 = (b.data.toList.map N).getD j 0) := fun j h => by
            by_cases e : j = k
            · subst e; rw [bt_map, bt_map, ← HA.out j hlt1, ← HB.out j hlt2, hxy]
            · exact HK.out j (by omega)
          clear hxy
          go_wp2
          go_quiet (fail)
          go_wp2
          go_roundw
          case rel => exact ⟨k + 1, by omega, by omega, by go_num, HB2.out, _, rfl⟩
          case measure => simp [intOf]; omega
        · have hn : (((a[k]'hlt1).toNat : Int) != ((b[k]'hlt2).toNat : Int)) = true := by simpa using hxy
          have HF : Hid (lexL (a.data.toList.map N) (b.data.toList.map N) = decide (((a[k]'hlt1).toNat : Int) < ((b[k]'hlt2).toNat : Int))) := by
            show lexL _ _ = _
            rw [lexL_at k _ _ (by rw [HM.out.1]; exact hlt1) (by rw [HM.out.2]; exact hlt2) HK.out (by rw [bt_map, bt_map, ← HA.out k hlt1, ← HB.out k hlt2]; exact hxy), bt_map, bt_map, ← HA.out k hlt1, ← HB.out k hlt2]
          clear hxy
          go_wp2
          go_quiet (fail)
          go_wp2
          go_quiet (fail)
          go_wp2
          go_ret
          exact ⟨by rw [HF.out]; first | rfl | (simp; done), drewN3 _ _ _ _⟩
      · have HF : Hid (lexL (a.data.toList.map N) (b.data.toList.map N) = decide (a.size < b.size)) := by
          show lexL _ _ = _
          rw [lexL_end k _ _ (by rw [HM.out.1]; exact hk1) (by rw [HM.out.2]; exact hk2) HK.out (.inr (by rw [HM.out.2]; omega)), HM.out.1, HM.out.2]
        go_wp2
        go_ret
        exact ⟨by rw [HF.out]; first | rfl | (simp; done), _, by first | rfl | rw [World.drewN_drewN]⟩
    · have HF : Hid (lexL (a.data.toList.map N) (b.data.toList.map N) = decide (a.size < b.size)) := by
        show lexL _ _ = _
        rw [lexL_end k _ _ (by rw [HM.out.1]; exact hk1) (by rw [HM.out.2]; exact hk2) HK.out (.inl (by rw [HM.out.1]; omega)), HM.out.1, HM.out.2]
      go_wp2
      go_ret
      exact ⟨by rw [HF.out]; first | rfl | (simp; done), _, by first | rfl | rw [World.drewN_drewN]⟩

theorem ahead_any (a b : ByteArray) (w : World) (ha : a.size ≤ 9223372036854775807) (hb : b.size ≤ 9223372036854775807) :
    Calls Tryd.prog 13 #[.string a, .string b] w fun e w' => e = .returned (.bool (lessB a b)) ∧ ∃ n, w' = w.drewN n := by
  have h := Ahead_any a b w ha hb
  rw [← less_lex] at h
  exact h
end Go.Proofs.YtllmdfkiogmofaaDoor

/- Cut: what the seat's translation lacks is left out. -/
/- The reference's Build, over its Make. -/
namespace Go.Proofs.YtllmdfkiogmofaaDoor
open Go.RowKit Nums Fm Pm
set_option maxRecDepth 100000

/-- What Make must say. -/
def MakeSays (v : Value) (l : List Pr) (w : World) : Prop :=
  Calls Tryd.prog 6 #[v] w fun e w' => ∃ base vs b, e = .returned (.agg #[.int .i64 base, vs]) ∧ BuildSays w w' l base vs b
/-- The block of the result. -/
structure RBlk (rb : Nat) (w : World) : Prop where
  blk : w.heap[rb]? = some (.cells #[.int .i64 0, .slice none 0 0] 27)
theorem RBlk.facts {rb : Nat} {w : World} (h : RBlk rb w) : w.cell? ⟨rb, 0, none⟩ = some (.int .i64 0) ∧ w.cell? ⟨rb, 1, none⟩ = some (.slice none 0 0) ∧ ∀ o, w.frozen? ⟨rb, o, none⟩ = false := ⟨by simp [World.cell?, h.blk], by simp [World.cell?, h.blk], fun o => by simp [World.frozen?, h.blk]⟩
theorem RBlk.below {rb : Nat} {w w' : World} (h : RBlk rb w) (hb : Below w.heap.size w w') : RBlk rb w' := ⟨(hb.block rb (Array.getElem?_eq_some_iff.1 h.blk).1).trans h.blk⟩
theorem RBlk.lt {rb : Nat} {w : World} (h : RBlk rb w) : rb < w.heap.size := (Array.getElem?_eq_some_iff.1 h.blk).1
theorem StRow.same {B : Nat} {w w' : World} {vs : Value} {b : List St} (h : StRow B w vs b) (he : ∀ g, B ≤ g → w'.heap[g]? = w.heap[g]?) : StRow B w' vs b := by
  obtain ⟨xss, h1, h2, h3⟩ := h
  refine ⟨xss, h1.same fun g hg => he g (h1.block hg).1, h2, fun i s hi => ?_⟩
  obtain ⟨va, e1, e2⟩ := h3 i s hi
  exact ⟨va, e1, GOwn.same e2 fun g hg => he g (GOwn.block e2 hg).1⟩
end Go.Proofs.YtllmdfkiogmofaaDoor
