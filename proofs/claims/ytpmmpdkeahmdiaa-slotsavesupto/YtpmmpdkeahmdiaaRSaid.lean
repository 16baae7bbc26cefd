/- The reference of the slot: what a sector says. -/
import Derived.Test.YtpmmpdkeahmdiaaRSector
import Derived.Test.YtpmmpdkeahmdiaaRefSyn
import Derived.Test.YtpmmpdkeahmdiaaSlotM
import Derived.WalkSpells
namespace Go.Proofs.Ytpmmpdkeahmdiaa
open Go.RowKit
set_option maxRecDepth 100000

attribute [local go_sem ↓] exec_alloc_D exec_box_D exec_load_D exec_store_D
attribute [local go_sem] rdV_cells rdC_0 rdC_1 rdC_2 rdC_3 rdC_4 rdC_5
theorem strB_list (xs : List Nat) : (strB xs).toList = xs.map UInt8.ofNat := by
  rw [ByteArray.toList_eq]
  simp [strB, strOfNums, List.map_map]
theorem strB_get {xs : List Nat} (hx : ∀ x ∈ xs, x < 256) {i : Nat} (h : i < (strB xs).size) : ((strB xs)[i]'h).toNat = xs.getD i 0 := by
  have hi : i < xs.length := by rw [strB_size] at h; exact h
  have h1 : (strB xs)[i]'h = (strB xs).toList[i]'(by rw [strB_list]; simpa using hi) := by simp [ByteArray.toList_eq, ByteArray.getElem_eq_getElem_data]
  have h2 := hx xs[i] (List.getElem_mem hi)
  rw [h1]
  simp only [strB_list, List.getElem_map, List.getD_eq_getElem?_getD, List.getElem?_eq_getElem hi, Option.getD_some, UInt8.toNat_ofNat']
  omega
theorem strB_cut (xs : List Nat) (i k : Nat) : (strB xs).extract i (i + k) = strB ((xs.drop i).take k) := by
  have h : ((strB xs).extract i (i + k)).toList = (strB ((xs.drop i).take k)).toList := by
    rw [strB_list, ByteArray.toList_eq]
    simp only [ByteArray.data_extract, Array.toList_extract, List.extract_eq_take_drop]
    rw [← ByteArray.toList_eq, strB_list]
    simp [List.map_take, List.map_drop]
  rw [ByteArray.toList_eq, ByteArray.toList_eq] at h
  exact ByteArray.ext (Array.toList_inj.1 h)
theorem strB_eq {xs ys : List Nat} (hx : ∀ x ∈ xs, x < 256) (hy : ∀ y ∈ ys, y < 256) : ((strB xs).toList == (strB ys).toList) = decide (xs = ys) := by
  rw [strB_list, strB_list, Bool.eq_iff_iff, beq_iff_eq, decide_eq_true_iff]
  exact ⟨fun h => ofNat_inj hx hy h, fun h => by rw [h]⟩
theorem leV_drop {l : List Nat} {k : Nat} (hk : k < l.length) : leV (l.drop k) = l.getD k 0 + 256 * leV (l.drop (k + 1)) := by
  rw [List.drop_eq_getElem_cons hk, List.getD_eq_getElem?_getD, List.getElem?_eq_getElem hk]
  rfl
/-- What the reference says of a sector. -/
def saidC (i : Nat) (o : Option (List Nat)) : Nat × List Nat := match o with
  | some bs => if bs.getD 8 0 ≤ 48 ∧ secN bs % 2 = i ∧ bs = laySec (secN bs) (secV bs) then (secN bs, secV bs) else (0, [])
  | none => (0, [])
set_option maxHeartbeats 1000000 in
theorem refSaid_any (P : Nat → Prop) (N : Nat) (d : DS) (v : Value) (a : Int) (i : Nat) (w : World) (h : RefIs P w v d) (hd : DsOk N d) (hN : N < 1099511627776) (hi : i < 2) (hlen : ∀ bs, curOf d.secs a (i : Int) = some bs → bs.length = 64 ∧ ∀ x ∈ bs, x < 256) :
    Calls Try.prog 61 #[v, .int .u64 a, .int .i64 (i : Int)] w fun e w' => e = .returned (.tuple #[.int .u64 ((saidC i (curOf d.secs a (i : Int))).1 : Int), .string (strB (saidC i (curOf d.secs a (i : Int))).2)]) ∧ Below w.heap.size w w' := by
  obtain ⟨ad, n, c, rfl⟩ := h.form
  have t1 := DskAt.new w (rdOf d) (.slice ad n c)
  have hld := loadD_at t1
  obtain ⟨w1, hw1⟩ : ∃ w1, w.alloc (.cells (rdC (rdOf d) (.slice ad n c)) 27) = w1 := ⟨_, rfl⟩
  have HW1 : Hid (w.alloc (.cells (rdC (rdOf d) (.slice ad n c)) 27) = w1) := hw1
  have B1 : Hid (Below w.heap.size w w1) := hw1 ▸ (Below.refl _ w).alloc (Nat.le_refl _) _
  have HR : Hid (RefIs P w1 (rdV (rdOf d) (.slice ad n c)) d) := h.below B1.out
  have HD : Hid (DsOk N d) := hd
  have HL : Hid (∀ bs, curOf d.secs a (i : Int) = some bs → bs.length = 64 ∧ ∀ x ∈ bs, x < 256) := hlen
  clear hw1 t1 h hd hlen
  go_enter Try.func61, Try.ntmps61
  go_wp2_with fail
  rw [HW1.out]
  clear hld HW1
  refine (refRead_any P N d _ a (i : Int) w1 HR.out HD.out hN).mono ?_
  rintro e w2 ⟨rfl, hb2⟩
  have B2 : Hid (Below w.heap.size w w2) := B1.out.trans (hb2.mono B1.out.size)
  clear hb2
  cases hc : curOf d.secs a (i : Int) with
  | none =>
    have HC : Hid (curOf d.secs a (i : Int) = none) := hc
    clear hc
    unfold readV
    go_wp2_with fail
    go_ret2
    exact ⟨by rw [HC.out]; rfl, B2.out⟩
  | some bs =>
    have HC : Hid (curOf d.secs a (i : Int) = some bs) := hc
    obtain ⟨hl, hx⟩ := HL.out bs hc
    obtain ⟨S, hS⟩ : ∃ S, strB bs = S := ⟨_, rfl⟩
    have HS : Hid (strB bs = S) := hS
    have HX : Hid (∀ x ∈ bs, x < 256) := hx
    have HLN : Hid (bs.length = 64) := hl
    have hsz : S.size = 64 := by rw [← hS, strB_size, hl]
    have hget : ∀ (k : Nat) (hk : k < S.size), (S[k]'hk).toNat = bs.getD k 0 := by
      subst hS
      exact fun k hk => strB_get hx hk
    have HG : Hid (∀ (k : Nat) (hk : k < S.size), (S[k]'hk).toNat = bs.getD k 0) := hget
    have h8 := hget 8 (by omega)
    obtain ⟨q, hq⟩ : ∃ q, bs.getD 8 0 = q := ⟨_, rfl⟩
    have HQ : Hid (bs.getD 8 0 = q) := hq
    have hq256 : q < 256 := by
      rw [← hq]; rw [List.getD_eq_getElem?_getD, List.getElem?_eq_getElem (by omega)]; exact hx _ (List.getElem_mem _)
    rw [hq] at h8
    unfold readV
    simp only [hS]
    clear hx hc hS hget hl hq
    by_cases h48 : q ≤ 48
    · have HSN : Hid (secN bs = leV (bs.take 8)) := rfl
      go_wp2_with fail
      go_loopw [10, 11] (fun v10 v11 wr => ∃ j : Nat, j ≤ 8 ∧ v11 = .int .i64 (7 - (j : Int)) ∧ v10 = .int .u64 ((leV ((bs.take 8).drop (8 - j)) : Nat) : Int) ∧ wr = w2) (fun _ v11 _ => (intOf v11 + 1).toNat)
      case atStart => exact ⟨0, by omega, rfl, by rw [List.drop_eq_nil_of_le (by rw [List.length_take]; omega)]; rfl, rfl⟩
      case round =>
        obtain ⟨j, hj, rfl, rfl, rfl⟩ := hrel
        by_cases hj8 : j < 8
        · obtain ⟨m, hm⟩ : ∃ m, leV ((bs.take 8).drop (8 - j)) = m := ⟨_, rfl⟩
          have hml : m < 72057594037927936 := by
            have h1 := leV_lt ((bs.take 8).drop (8 - j)) (fun x hx => HX.out x (List.mem_of_mem_take (List.mem_of_mem_drop hx)))
            rw [hm] at h1
            refine Nat.lt_of_lt_of_le h1 (Nat.pow_le_pow_right (by omega) (show _ ≤ 7 from ?_))
            rw [List.length_drop, List.length_take, HLN.out]; omega
          have hk := HG.out (7 - j) (by omega)
          obtain ⟨x, hxq⟩ : ∃ x, bs.getD (7 - j) 0 = x := ⟨_, rfl⟩
          have hx256 : x < 256 := by
            rw [← hxq]; rw [List.getD_eq_getElem?_getD, List.getElem?_eq_getElem (by rw [HLN.out]; omega)]; exact HX.out _ (List.getElem_mem _)
          have HNX : Hid (leV ((bs.take 8).drop (8 - (j + 1))) = x + 256 * m) := by
            show _ = _
            have hlt : 7 - j < (bs.take 8).length := by rw [List.length_take, HLN.out]; omega
            have h2 := leV_drop hlt
            rw [show 7 - j + 1 = 8 - j by omega, hm] at h2
            rw [show 8 - (j + 1) = 7 - j by omega, h2, ← hxq]
            congr 1
            rw [List.getD_eq_getElem?_getD, List.getD_eq_getElem?_getD, List.getElem?_take, if_pos (by omega)]
          rw [hxq] at hk
          rw [hm]
          clear hm hxq
          have htn : (7 - (j : Int)).toNat = 7 - j := by omega
          have hpos : (0 : Int) ≤ 7 - (j : Int) ∧ (7 - (j : Int)) < 64 := by omega
          go_wp2_with fail
          go_roundw
          case rel => exact ⟨j + 1, by omega, by go_num, by rw [HNX.out]; go_num, (by first | trivial | exact rfl)⟩
          case measure => simp [intOf]; omega
        · have hj8' : j = 8 := by omega
          subst hj8'
          rw [show (bs.take 8).drop (8 - 8) = bs.take 8 from rfl, ← HSN.out]
          have hVb : ∀ x ∈ secV bs, x < 256 := fun x hx => HX.out x (List.mem_of_mem_drop (List.mem_of_mem_take hx))
          have hVl : (secV bs).length = q := by
            unfold secV
            rw [List.length_take, List.length_drop, HLN.out, HQ.out]; omega
          have hcut : S.extract 9 (9 + q) = strB (secV bs) := by
            rw [← HS.out, strB_cut]; unfold secV; rw [HQ.out]
          have hml : secN bs < 18446744073709551616 := by
            have h1 := leV_lt (bs.take 8) (fun x hx => HX.out x (List.mem_of_mem_take hx))
            rw [List.length_take, HLN.out] at h1
            exact h1
          have HVB : Hid (∀ x ∈ secV bs, x < 256) := hVb
          have HVL : Hid ((secV bs).length = q) := hVl
          have HSD : Hid (saidC i (some bs) = if secN bs % 2 = i ∧ bs = laySec (secN bs) (secV bs) then (secN bs, secV bs) else (0, [])) := by
            show _ = _
            unfold saidC
            simp only [HQ.out, h48, true_and]
          obtain ⟨m, hm⟩ : ∃ m, secN bs = m := ⟨_, rfl⟩
          obtain ⟨V, hV⟩ : ∃ V, secV bs = V := ⟨_, rfl⟩
          rw [hm] at hml HSD
          rw [hV] at hcut HVB HVL HSD
          rw [hm]
          clear hm hV hVb hVl HSN
          have hto : ((9 : Int) + (q : Int)).toNat = 9 + q := by omega
          by_cases hp : m % 2 = i
          · have hp' : ((m : Int) % 2 != (i : Int)) = false := by simp; omega
            go_wp2_with fail
            refine (refSector_any m V _ hml HVB.out (by rw [HVL.out]; exact h48)).mono ?_
            rintro e w3 ⟨rfl, hb3⟩
            have B3 : Hid (Below w.heap.size w w3) := B2.out.trans (hb3.mono B2.out.size)
            have heq : ((strB (laySec m V)).toList == S.toList) = decide (laySec m V = bs) := by
              rw [← HS.out]
              exact strB_eq (lay_byte (by rw [HVL.out]; exact h48) HVB.out) HX.out
            clear hb3
            by_cases hy : laySec m V = bs
            · have hqe : ((strB (laySec m V)).toList == S.toList) = true := by rw [heq]; exact decide_eq_true hy
              have hne : ((strB (laySec m V)).toList != S.toList) = false := by simp only [bne, hqe, Bool.not_true]
              have HE : Hid (saidC i (some bs) = (m, V)) := by
                show _ = _
                rw [HSD.out, if_pos ⟨hp, hy.symm⟩]
              clear hy heq hp
              go_wp2_with fail
              go_ret2
              exact ⟨by rw [HC.out, HE.out]; rfl, B3.out⟩
            · have hqe : ((strB (laySec m V)).toList == S.toList) = false := by rw [heq]; exact decide_eq_false hy
              have hne : ((strB (laySec m V)).toList != S.toList) = true := by simp only [bne, hqe, Bool.not_false]
              have HE : Hid (saidC i (some bs) = (0, [])) := by
                show _ = _
                rw [HSD.out, if_neg (fun h => hy h.2.symm)]
              clear hy heq hp
              go_wp2_with fail
              go_ret2
              exact ⟨by rw [HC.out, HE.out]; rfl, B3.out⟩
          · have hp' : ((m : Int) % 2 != (i : Int)) = true := by simp; omega
            have HE : Hid (saidC i (some bs) = (0, [])) := by
              show _ = _
              rw [HSD.out, if_neg (fun h => hp h.1)]
            clear hp
            go_wp2_with fail
            go_ret2
            exact ⟨by rw [HC.out, HE.out]; rfl, B2.out⟩
    · have HE : Hid (saidC i (some bs) = (0, [])) := by
        show _ = _
        unfold saidC
        simp only [HQ.out]
        rw [if_neg (fun h => h48 h.1)]
      go_wp2_with fail
      go_ret2
      exact ⟨by rw [HC.out, HE.out]; rfl, B2.out⟩
end Go.Proofs.Ytpmmpdkeahmdiaa
