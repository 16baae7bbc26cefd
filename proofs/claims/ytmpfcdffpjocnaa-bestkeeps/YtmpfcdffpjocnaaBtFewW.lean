/- BestFew: the law's own walk. -/
import Derived.Test.YtmpfcdffpjocnaaBtSelW
namespace Go.Proofs.Ytmpfcdffpjocnaa
open Go.RowKit Go.Lib Nums Pm
set_option maxRecDepth 100000
namespace Bt
theorem few_lt (k : Nat) (l : List Mt) (q : Nat) (hq : (bestF k l).length = q + 1) : l.countP (fun m => btr m (el (bestF k l) q)) < q + 1 := by
  have hS := isort_srt l
  rw [bestF_isort] at hq
  have hlen : q < (isort l).length := by rw [List.length_take] at hq; omega
  have hel : el (bestF k l) q = (isort l)[q] := by
    unfold el
    rw [bestF_isort, List.getElem?_take, if_pos (by rw [List.length_take] at hq; omega), List.getElem?_eq_getElem hlen]
    rfl
  rw [hel, ← (isort_perm l).countP_eq]
  generalize isort l = S at *
  have e : S = S.take q ++ S[q] :: S.drop (q + 1) := by rw [← List.drop_eq_getElem_cons hlen, List.take_append_drop]
  have hz : (S.drop q).countP (fun m => btr m S[q]) = 0 := by
    rw [List.countP_eq_zero]
    intro y hy
    rw [List.drop_eq_getElem_cons hlen] at hy
    rcases List.mem_cons.1 hy with rfl | hy
    · simp [btr_sto.1]
    · have h1 : (S.drop q).Pairwise (fun a b => btr b a = false) := hS.sublist (List.drop_sublist _ _)
      rw [List.drop_eq_getElem_cons hlen] at h1
      have := (List.pairwise_cons.1 h1).1 y hy
      simp [this]
  have hc : S.countP (fun m => btr m S[q]) = (S.take q).countP (fun m => btr m S[q]) + (S.drop q).countP (fun m => btr m S[q]) := by
    rw [← List.countP_append, List.take_append_drop]
  have h2 := List.countP_le_length (p := fun m => btr m S[q]) (l := S.take q)
  rw [List.length_take] at h2
  omega
theorem count_take (p : Mt → Bool) (l : List Mt) (j : Nat) (x : Mt) (hx : l[j]? = some x) : (l.take (j + 1)).countP p = (l.take j).countP p + (if p x then 1 else 0) := by
  rw [take_at_m hx, List.countP_append, List.countP_singleton]
attribute [local go_sem ↓] exec_load_M exec_store_M
set_option maxHeartbeats 2000000 in
theorem few_walk (v : Value) (k : Int) (w : World) (l : List Mt) (h : MRow w v l) (hs : ∀ x ∈ l, SmM x) (hl : l.length ≤ 4398046511104) (_ : -9223372036854775808 ≤ k ∧ k ≤ 9223372036854775807) :
    Calls Try.prog 8 #[v, .int .i64 k] w fun e w' => e = .returned (.bool true) ∧ Below w.heap.size w w' := by
  have HSM : Hid (∀ x ∈ l, SmM x) := hs
  obtain ⟨ad, cap, rfl⟩ := h.form
  obtain ⟨n, hn⟩ : ∃ n, l.length = n := ⟨_, rfl⟩
  rw [hn] at h hl ⊢
  have HROW : Hid (MRow w (.slice ad n cap) l) := h
  have HN : Hid (l.length = n) := hn
  obtain ⟨L, hL⟩ : ∃ L, bestF (kk k) l = L := ⟨_, rfl⟩
  have HL : Hid (bestF (kk k) l = L) := hL
  obtain ⟨km, hkm⟩ : ∃ km, max k 0 = km := ⟨_, rfl⟩
  obtain ⟨kq, hkq⟩ : ∃ kq, kk k = kq := ⟨_, rfl⟩
  have hmn : min km 64 = (kq : Int) := by rw [← hkq, ← hkm]; unfold kk; omega
  obtain ⟨ln, hln⟩ : ∃ ln, L.length = ln := ⟨_, rfl⟩
  have hlk : ln = min kq n := by rw [← hln, ← hL, bestF_len, hkq, hn]
  have hmn2 : min (n : Int) (kq : Int) = (ln : Int) := by omega
  have hne : ((ln : Int) != (ln : Int)) = false := by simp
  have HLN : Hid (L.length = ln) := hln
  have hl64 : ln ≤ 64 := by have := best_small k l; rw [hL] at this; omega
  have HKQ : Hid (kk k = kq) := hkq
  have HSE : Hid (Calls Try.prog 14 #[.slice ad n cap, .int .i64 k] w fun e w' => ∃ vl, e = .returned vl ∧ GOwn 23 3 w.heap.size w' vl (L.map cellsM) ∧ Below w.heap.size w w') := by
    have := Select_any w _ l k h (by omega)
    rw [hL] at this
    exact this
  clear h hs hn hL hkq hln hlk
  go_enter Try.func8, Try.ntmps8
  go_upto_region 2 with (go_at_call 14; refine HSE.out.mono ?_; rintro e w1 ⟨v1, rfl, hg1, hb1⟩)
  have HG1 : Hid (GOwn 23 3 w.heap.size w1 v1 (L.map cellsM)) := hg1
  have HB1 : Hid (Below w.heap.size w w1) := hb1
  obtain ⟨ad1, cap1, hv1, hcap1⟩ := hg1.shape
  rw [List.length_map, HLN.out] at hv1 hcap1
  subst hv1
  clear hg1 hb1
  by_cases hl0 : ln = 0
  · subst hl0
    go_wp2_with (go_at_call 10; refine (alive_any w1).mono ?_; rintro e w2 ⟨rfl, hb2⟩)
    go_ret
    exact ⟨rfl, HB1.out.trans (hb2.mono HB1.out.size)⟩
  · obtain ⟨q, hq⟩ : ∃ q, ln = q + 1 := ⟨ln - 1, by omega⟩
    have hz : ((ln : Int) == 0) = false := by simp; omega
    have hqi : (ln : Int) - 1 = (q : Int) := by omega
    have hqw : IntKind.i64.wrap ((ln : Int) - 1) = (q : Int) := by rw [IntKind.wrap_i64]; omega
    have hql : (q : Int) < (ln : Int) := by omega
    have HFEW : Hid (l.countP (fun m => btr m (el L q)) < ln) := by
      have := few_lt (kk k) l q (by rw [HL.out, HLN.out]; exact hq)
      rw [HL.out] at this
      show _ < ln
      omega
    obtain ⟨gs, caps, hvs, hgs, _, _, hcs⟩ := GOwn.mt HG1.out (by have := HLN.out; omega)
    simp only [Value.slice.injEq] at hvs
    obtain ⟨hvs1, hvs2, hvs3⟩ := hvs
    subst hvs1
    obtain ⟨s0, s1, s2, hs3⟩ := hcs q (by have := HLN.out; omega)
    have hld : loadM Try.prog (.pointer (some ⟨gs, q * 3, none⟩)) w1 = .ok (valM (el L q)) w1 := loadM_at s0 s1 s2
    obtain ⟨W1, hst1, hbW1, hldW1, hcW1⟩ := new_store w1 (el L q)
    obtain ⟨lb, hlb⟩ : ∃ lb, w1.heap.size = lb := ⟨_, rfl⟩
    rw [hlb] at hst1 hldW1 hcW1
    have HBW1 : Hid (Below w.heap.size w W1) := HB1.out.trans (hbW1.mono HB1.out.size)
    have HCW1 : Hid (SAdd lb (el L q) W1) := hcW1
    have HSML : Hid (SmM (el L q)) := HSM.out _ (by
      have : el L q ∈ L := List.mem_of_getElem? (el_get (by have := HLN.out; omega))
      have hm : ∀ x ∈ L, x ∈ l := fun x hx => by rw [← HL.out] at hx; exact best_mem hx
      exact hm _ this)
    clear hvs2 hvs3 hcs s0 s1 s2 hs3 hcW1 hbW1 hgs hq
    obtain ⟨z, hzz⟩ : ∃ z, el L q = z := ⟨_, rfl⟩
    rw [hzz] at HFEW hld hst1 hldW1 HCW1 HSML
    clear hzz
    go_wp2
    clear hst1 hldW1 hld
    have HLB : Hid (lb < W1.heap.size) := (Array.getElem?_eq_some_iff.1 HCW1.out).1
    have HFEW2 : Hid (∀ c, c = l.countP (fun m => btr m z) → c < ln) := fun c e => by rw [e]; exact HFEW.out
    clear HFEW hlb hkm hmn hmn2 hne hz hqi hqw hql
    go_loopg [7, 36] n (fun g s7 s36 wr => ∃ (j c : Nat), s7 = .int .i64 c ∧ s36 = .int .i64 j ∧ j ≤ n ∧ n - j ≤ g ∧ c ≤ j ∧ Hid (c = (l.take j).countP (fun m => btr m z)) ∧ Hid (Below W1.heap.size W1 wr))
    case atStart => exact ⟨0, 0, rfl, rfl, Nat.zero_le _, by omega, Nat.le_refl _, rfl, Below.refl _ _⟩
    case round =>
      obtain ⟨j, c, rfl, rfl, hjn, hg, hcj, HC, HBR⟩ := hrel
      have HBT : Hid (Below w.heap.size w wr) := HBW1.out.trans (HBR.out.mono HBW1.out.size)
      by_cases hlt : j < n
      · have hltz : (j : Int) < (n : Int) := by omega
        obtain ⟨x, hx⟩ : ∃ x, l[j]? = some x := ⟨l[j]'(by have := HN.out; omega), List.getElem?_eq_getElem _⟩
        have HSX : Hid (SmM x) := HSM.out x (List.mem_of_getElem? hx)
        obtain ⟨g0, off, hgo, hg0, hld⟩ := (HROW.out.below HBT.out).load hx
        subst hgo
        obtain ⟨W3, hst, hbW, hld2, hcW⟩ := new_store wr x
        have HB3 : Hid (Below W1.heap.size W1 W3) := HBR.out.trans (hbW.mono HBR.out.size)
        have hS3 : SAdd lb z W3 := by unfold SAdd; rw [HB3.out.block lb HLB.out]; exact HCW1.out
        have hld3 := own_load hS3
        have HCT : Hid ((l.take (j + 1)).countP (fun m => btr m z) = c + (if btr x z then 1 else 0)) := by
          have := count_take (fun m => btr m z) l j x hx
          rw [← HC.out] at this
          exact this
        have HRB : Hid (Calls Try.prog 12 #[valM x, valM z] W3 fun e w' => e = .returned (.bool (btr x z)) ∧ Below W3.heap.size W3 w') := refBetter_any x z W3 HSX.out HSML.out
        clear hx hg0 hbW hcW hS3
        cases hbt : btr x z
        · rw [hbt] at HRB HCT
          clear hbt
          go_wp2_with (go_at_call 12; refine HRB.out.mono ?_; rintro e w4 ⟨rfl, hb4⟩; have HB4 : Hid (Below W1.heap.size W1 w4) := HB3.out.trans (hb4.mono HB3.out.size); clear hb4)
          go_roundg (n - (j + 1))
          case measure => omega
          case rel => exact ⟨j + 1, c, rfl, by go_num, by omega, Nat.le_refl _, by omega, by have := HCT.out; simp at this; exact this.symm, HB4⟩
        · rw [hbt] at HRB HCT
          clear hbt
          go_wp2_with (go_at_call 12; refine HRB.out.mono ?_; rintro e w4 ⟨rfl, hb4⟩; have HB4 : Hid (Below W1.heap.size W1 w4) := HB3.out.trans (hb4.mono HB3.out.size); clear hb4)
          go_roundg (n - (j + 1))
          case measure => omega
          case rel => exact ⟨j + 1, c + 1, by go_num, by go_num, by omega, Nat.le_refl _, by omega, by have := HCT.out; simp at this; exact this.symm, HB4⟩
      · have hkn : j = n := by omega
        subst hkn
        have hcl : c < ln := HFEW2.out c (by have := HC.out; rw [List.take_of_length_le (by have := HN.out; omega)] at this; exact this)
        have hclz : (c : Int) < (ln : Int) := by omega
        go_wp2_with (go_at_call 10; refine (alive_any wr).mono ?_; rintro e w5 ⟨rfl, hb5⟩)
        go_ret
        exact ⟨rfl, HBT.out.trans (hb5.mono HBT.out.size)⟩
end Bt
end Go.Proofs.Ytmpfcdffpjocnaa
