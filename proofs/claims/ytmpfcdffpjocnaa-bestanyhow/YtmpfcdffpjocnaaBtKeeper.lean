/- The keeper's takeWorst, Worst, New. -/
import Derived.Test.YtmpfcdffpjocnaaBtHeap2
namespace Go.Proofs.Ytmpfcdffpjocnaa
open Go.RowKit Go.Lib Nums Pm
set_option maxRecDepth 100000
namespace Bt
/-- A match is stored in a block of its own. -/
theorem own_store (w1 : World) (mb : Nat) (a b c : Value) (hb : w1.heap[mb]? = some (.cells #[a, b, c] 23)) (x : Mt) :
    ∃ W, storeM Try.prog (.pointer (some ⟨mb, 0, none⟩)) (valM x) w1 = .ok () W ∧ Upd (fun k => k = mb) w1 W ∧ W.heap[mb]? = some (.cells (cellsM x).toArray 23) := by
  refine ⟨w1.setCells mb 0 (cellsM x), storeM_at (u := a) (v := b) (z := c) (by simp [World.cell?, hb]) (by simp [World.cell?, hb]) (by simp [World.cell?, hb]) (by simp [World.frozen?, hb]) (by simp [World.frozen?, hb]) (by simp [World.frozen?, hb]), Upd.setCells (F := fun k => k = mb) rfl _ _ (Upd.refl _ _), ?_⟩
  simp [cellsM, World.setCells, World.setCell, Array.getElem?_modify, hb]
theorem own_cells {W : World} {mb : Nat} {x : Mt} (h : W.heap[mb]? = some (.cells (cellsM x).toArray 23)) : W.cell? ⟨mb, 0, none⟩ = some (.string x.1) ∧ W.cell? ⟨mb, 1, none⟩ = some (.int .i64 x.2.1) ∧ W.cell? ⟨mb, 2, none⟩ = some (.int .i64 x.2.2) := by
  refine ⟨by simp [World.cell?, h, cellsM], by simp [World.cell?, h, cellsM], by simp [World.cell?, h, cellsM]⟩
theorem own_load {W : World} {mb : Nat} {x : Mt} (h : W.heap[mb]? = some (.cells (cellsM x).toArray 23)) : loadM Try.prog (.pointer (some ⟨mb, 0, none⟩)) W = .ok (valM x) W := by
  obtain ⟨c0, c1, c2⟩ := own_cells h
  exact loadM_at c0 c1 c2
def zM : Obj := .cells #[.string ⟨#[]⟩, .int .i64 0, .int .i64 0] 23
theorem tw_results {tmps : Array Value} {w : World} {rb : Nat} {a b c : Value} (h2 : tmps.getD 2 undef = .pointer (some ⟨rb, 0, none⟩)) (c0 : w.cell? ⟨rb, 0, none⟩ = some a) (c1 : w.cell? ⟨rb, 1, none⟩ = some b) (c2 : w.cell? ⟨rb, 2, none⟩ = some c) : (results Try.f23 tmps).run Try.prog w = .ok (.agg #[a, b, c]) w := by
  have h2' : tmps[2]?.getD undef = .pointer (some ⟨rb, 0, none⟩) := by simpa using h2
  simp [results, Try.results23, go_sem, h2', c0, c1, c2]
theorem wo_results {tmps : Array Value} {w : World} {rb : Nat} {a b c : Value} (h2 : tmps.getD 2 undef = .pointer (some ⟨rb, 0, none⟩)) (c0 : w.cell? ⟨rb, 0, none⟩ = some a) (c1 : w.cell? ⟨rb, 1, none⟩ = some b) (c2 : w.cell? ⟨rb, 2, none⟩ = some c) : (results Try.f19 tmps).run Try.prog w = .ok (.tuple #[.agg #[a, b, c], tmps.getD 3 undef]) w := by
  have h2' : tmps[2]?.getD undef = .pointer (some ⟨rb, 0, none⟩) := by simpa using h2
  simp [results, Try.results19, go_sem, h2', c0, c1, c2]
attribute [local go_sem ↓] exec_load_M exec_store_M
set_option maxHeartbeats 1000000 in
theorem takeWorst_any (B : Nat) (w : World) (p : Nat) (room : Int) (v : Value) (h : List Mt) (n : Nat) (K : KAt B w p room v h) (H : Hp h.length h) (hn : h.length = n + 1) (hl : h.length < 549755813888) :
    Calls Try.prog 23 #[.pointer (some ⟨p, 0, none⟩)] w fun e w' => e = .returned (valM (el h 0)) ∧ ∃ v' h', KAt B w' p room v' h' ∧ Upd (KF p v) w w' ∧ v'.ownBlock = v.ownBlock ∧ (el h 0 :: h').Perm h ∧ Hp h'.length h' ∧ h'.length = n := by
  obtain ⟨V1, hV1⟩ : ∃ V1, w.alloc (.cells #[.string ⟨#[]⟩, .int .i64 0, .int .i64 0] 23) = V1 := ⟨_, rfl⟩
  obtain ⟨mb, hmb⟩ : ∃ mb, w.heap.size = mb := ⟨_, rfl⟩
  have hb1 : Below w.heap.size w V1 := by rw [← hV1]; exact (Below.refl _ w).alloc (Nat.le_refl _) _
  have hn1 : V1.heap[mb]? = some (.cells #[.string ⟨#[]⟩, .int .i64 0, .int .i64 0] 23) := by rw [← hV1, ← hmb]; exact alloc_newM _ _
  have hmk : ∀ k, KF p v k → k < mb := fun k hk => by
    rcases hk with rfl | hk
    · have := K.lt; omega
    · have := K.row.lt hk; omega
  have HB1 : Hid (Below w.heap.size w V1) := hb1
  have HMK : Hid (∀ k, KF p v k → k < mb) := hmk
  have HN1 : Hid (V1.heap[mb]? = some (.cells #[.string ⟨#[]⟩, .int .i64 0, .int .i64 0] 23)) := hn1
  have HPO : Hid (Calls Try.prog 26 #[.iface 47 (.pointer (some ⟨p, 1, none⟩))] V1 fun e w' => e = .returned (.iface 23 (valM (el h 0))) ∧ ∃ v' h', KAt B w' p room v' h' ∧ Upd (KF p v) V1 w' ∧ v'.ownBlock = v.ownBlock ∧ (el h 0 :: h').Perm h ∧ Hp h'.length h' ∧ h'.length = n) := Pop_any B V1 p room v h n (K.below hb1) H hn hl
  have HM : Hid (w.heap.size = mb) := hmb
  have hta := run_assertM
  clear K H hn hb1 hn1 hmk
  go_enter Try.func23, Try.ntmps23
  go_upto_region 1 with fail
  clear hV1 hmb
  go_wp2_with (go_at_call 26; refine HPO.out.mono ?_; rintro e w2 ⟨rfl, v2, h2, hK2, hu2, hx2, hr2⟩; have hm2 := (hu2.block mb (Array.getElem?_eq_some_iff.1 HN1.out).1 (fun f => by have := HMK.out mb f; omega)).trans HN1.out; obtain ⟨W, hst, huW, hcW⟩ := own_store w2 mb _ _ _ hm2 (el h 0); clear hm2; have HKK : Hid (KAt B w2 p room v2 h2 ∧ Upd (KF p v) V1 w2 ∧ v2.ownBlock = v.ownBlock ∧ (el h 0 :: h2).Perm h ∧ Hp h2.length h2 ∧ h2.length = n) := ⟨hK2, hu2, hx2, hr2⟩; have HUW : Hid (Upd (fun k => k = mb) w2 W) := huW; have HCW : Hid (W.heap[mb]? = some (.cells (cellsM (el h 0)).toArray 23)) := hcW; clear hK2 hu2 hx2 hr2 huW hcW)
  obtain ⟨c0, c1, c2⟩ := own_cells HCW.out
  refine bodyPost_ret (tw_results rfl c0 c1 c2) rfl ?_
  have hmk2 : ∀ k, KF p v2 k → k < mb := fun k hk => by
    rcases hk with rfl | hk
    · exact HMK.out _ (.inl rfl)
    · exact HMK.out _ (.inr (HKK.out.2.2.1 ▸ hk))
  refine ⟨rfl, v2, h2, HKK.out.1.upd HUW.out (fun k hk e => by have := hmk2 k hk; omega), ?_, HKK.out.2.2⟩
  have u1 : Upd (KF p v) w w2 := (upd_of_below HB1.out).trans HKK.out.2.1 (fun _ _ f => f)
  exact ⟨HUW.out.os.trans u1.os, HUW.out.tape.trans u1.tape, HUW.out.output.trans u1.output, Nat.le_trans u1.size HUW.out.size, fun k hk hf => (HUW.out.block k (Nat.lt_of_lt_of_le hk u1.size) (by have := HM.out; show ¬ k = mb; omega)).trans (u1.block k hk hf)⟩
set_option maxHeartbeats 1000000 in
theorem Worst_any (B : Nat) (w : World) (p : Nat) (room : Int) (v : Value) (h : List Mt) (K : KAt B w p room v h) :
    Calls Try.prog 19 #[.pointer (some ⟨p, 0, none⟩)] w fun e w' => e = .returned (.tuple #[valM (el h 0), .bool (decide (0 < h.length))]) ∧ Below w.heap.size w w' := by
  obtain ⟨V1, hV1⟩ : ∃ V1, w.alloc (.cells #[.string ⟨#[]⟩, .int .i64 0, .int .i64 0] 23) = V1 := ⟨_, rfl⟩
  obtain ⟨mb, hmb⟩ : ∃ mb, w.heap.size = mb := ⟨_, rfl⟩
  have hb1 : Below w.heap.size w V1 := by rw [← hV1]; exact (Below.refl _ w).alloc (Nat.le_refl _) _
  have hn1 : V1.heap[mb]? = some (.cells #[.string ⟨#[]⟩, .int .i64 0, .int .i64 0] 23) := by rw [← hV1, ← hmb]; exact alloc_newM _ _
  have K1 := K.below hb1
  have HL : Hid (Calls Try.prog 18 #[.pointer (some ⟨p, 0, none⟩)] V1 fun e w' => e = .returned (.int .i64 h.length) ∧ w' = V1) := Klen_any B V1 p room v h K1
  have HFIN : Hid (∀ W, Upd (fun k => k = mb) V1 W → Below w.heap.size w W) := fun W u => hb1.trans (u.below (B := w.heap.size) (fun k e => by have : k = mb := e; omega) hb1.size)
  have c1 := K1.c1
  by_cases h0 : h.length = 0
  · obtain ⟨W, hst, huW, hcW⟩ := own_store V1 mb _ _ _ hn1 (⟨#[]⟩, 0, 0)
    have HE : Hid (valM (el h 0) = .agg #[.string ⟨#[]⟩, .int .i64 0, .int .i64 0]) := by
      have : h = [] := List.length_eq_zero_iff.1 h0
      subst this; rfl
    have HD : Hid (decide (0 < h.length) = false) := decide_eq_false (by omega)
    have HB : Hid (Below w.heap.size w W) := HFIN.out W huW
    rw [h0] at HL
    have hst2 : storeM Try.prog (.pointer (some ⟨mb, 0, none⟩)) (.agg #[.string ⟨#[]⟩, .int .i64 0, .int .i64 0]) V1 = .ok () W := hst
    have HC := own_cells hcW
    clear K K1 hb1 hn1 h0 hst huW hcW HFIN
    go_enter Try.func19, Try.ntmps19
    go_wp2_with (go_at_call 18; refine HL.out.mono ?_; rintro e w2 ⟨rfl, hw2⟩; replace hw2 := hw2.symm; subst hw2)
    refine bodyPost_ret (wo_results rfl HC.1 HC.2.1 HC.2.2) rfl ?_
    exact ⟨by rw [HE.out, HD.out]; rfl, HB.out⟩
  · obtain ⟨W, hst, huW, hcW⟩ := own_store V1 mb _ _ _ hn1 (el h 0)
    have HB : Hid (Below w.heap.size w W) := HFIN.out W huW
    have HD : Hid (decide (0 < h.length) = true) := decide_eq_true (by omega)
    obtain ⟨g, cap, hv, hg, _, hcap, hc⟩ := GOwn.mt K1.row (by omega)
    obtain ⟨n0, n1, n2, _⟩ := hc 0 (by omega)
    rw [Nat.zero_mul] at n0 n1 n2
    have hld : loadM Try.prog (.pointer (some ⟨g, 0, none⟩)) V1 = .ok (valM (el h 0)) V1 := loadM_at n0 n1 n2
    obtain ⟨n, hn⟩ : ∃ n, h.length = n := ⟨_, rfl⟩
    rw [hn] at hv HL h0 hcap
    rw [hv] at c1
    have hz : ((n : Int) == 0) = false := by simp; omega
    have hz2 : (0 : Int) < (n : Int) := by omega
    have HC := own_cells hcW
    clear K K1 hb1 hn1 huW hcW HFIN hc n0 n1 n2 hn hv
    go_enter Try.func19, Try.ntmps19
    go_wp2_with (go_at_call 18; refine HL.out.mono ?_; rintro e w2 ⟨rfl, hw2⟩; replace hw2 := hw2.symm; subst hw2)
    refine bodyPost_ret (wo_results rfl HC.1 HC.2.1 HC.2.2) rfl ?_
    exact ⟨by rw [HD.out]; rfl, HB.out⟩
theorem New_any (w : World) (k : Int) : Calls Try.prog 16 #[.int .i64 k] w fun e w' => e = .returned (.pointer (some ⟨w.heap.size, 0, none⟩)) ∧ KAt w.heap.size w' w.heap.size (min k 64) (.slice none 0 0) [] ∧ Below w.heap.size w w' := by
  go_enter Try.func16, Try.ntmps16
  go_wp2
  go_ret
  have hn := alloc_newM w (.cells #[.int .i64 (min k 64), .slice none 0 0] 44)
  have hb := (Below.refl w.heap.size w).alloc (Nat.le_refl _) (.cells #[.int .i64 (min k 64), .slice none 0 0] 44)
  generalize w.alloc (.cells #[.int .i64 (min k 64), .slice none 0 0] 44) = W at hn hb ⊢
  exact ⟨rfl, ⟨Nat.le_refl _, (Array.getElem?_eq_some_iff.1 hn).1, by simp [World.cell?, hn], by simp [World.cell?, hn], by simp [World.frozen?, hn], GOwn.nil _ _ _ _, by simp [Value.ownBlock]⟩, hb⟩
end Bt
end Go.Proofs.Ytmpfcdffpjocnaa
