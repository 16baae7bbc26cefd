/- PackCuts: the law's own walk. -/
import Derived.Test.YtdidcombjmbkdaaDoorBackW
namespace Go.Proofs.YtdidcombjmbkdaaDoor
open Go.RowKit Nums Fm Pk
set_option maxRecDepth 100000

namespace Cd
theorem row_take {N : Nat} {w : World} {ao : Option Addr} {len cap n : Nat} {xs : List Nat} (h : Row N w (.slice ao len cap) xs) (hn : n ≤ xs.length) : Row N w (.slice ao n cap) (xs.take n) := by
  obtain ⟨ao', cap', e, hcap, hno, hc⟩ := h
  simp only [Value.slice.injEq] at e
  obtain ⟨rfl, rfl, rfl⟩ := e
  have hl : (xs.take n).length = n := by rw [List.length_take]; omega
  refine ⟨_, _, by rw [hl], by rw [hl]; omega, hno, fun h0 => ?_⟩
  rw [hl] at h0
  obtain ⟨b, off, e, hb, hcell⟩ := hc (by omega)
  refine ⟨b, off, e, hb, fun i hi => ?_⟩
  rw [hl] at hi
  rw [hcell i (by omega)]
  simp [List.getD_eq_getElem?_getD, hi]
theorem bytes_none (B : Nat) (w : World) (hB : B ≤ w.heap.size) : Bytes B (w.alloc (Obj.cells #[] 5)) (.slice (some ⟨w.heap.size, 0, none⟩) 0 0) [] :=
  World.ownsRow_lit w #[] 0 hB (by decide) rfl
end Cd
theorem packB_pos {l : List Pr} (hC : buildE l = 0) : 0 < (packB (machOf l).1 ((machOf l).2.map ofSt)).length := by
  have hb := built_base hC
  have := (Cd.uw_len10 (n := (machOf l).1.toNat) (by omega)).1
  simp only [packB, List.length_append]
  omega
theorem BP.some {w W : World} {l : List Pr} {mb : Nat} {base : Int} {vs : Value} {b : List St} {ad : Option Addr} {n cap : Nat} (h : BP w W l mb base vs b (.slice ad n cap)) (hC : buildE l = 0) : ∃ g off, ad = some ⟨g, off, none⟩ := by
  have hp := packB_pos hC
  rw [h.eq] at hp
  obtain ⟨ao', cap', e, _, _, hc⟩ := h.by'.row
  simp only [Value.slice.injEq] at e
  obtain ⟨rfl, _, rfl⟩ := e
  obtain ⟨g, off, e, _⟩ := hc hp
  exact ⟨g, off, e⟩
theorem BP.cut {w W : World} {l : List Pr} {mb : Nat} {base : Int} {vs : Value} {b : List St} {ad : Option Addr} {n cap k : Nat} (h : BP w W l mb base vs b (.slice ad n cap)) (hC : buildE l = 0) (ht : Tabs w) (hk : k < (packB base (b.map ofSt)).length) : Calls Tryd.prog 16 #[.slice ad k cap] W fun e w' => e = .returned (.tuple #[.agg #[.int .i64 0, .slice none 0 0], .int .i64 80]) ∧ BP w w' l mb base vs b (.slice ad n cap) := by
  have hl := built_len hC
  have hcut := fun hm => cut_bad hC (n := k) (by rw [h.eq]; exact hk) hm
  rw [h.eq] at hl hcut
  simp only at hl hcut
  refine (Unpack_any W.heap.size _ _ W (Cd.row_take h.by'.row (n := k) (by omega)) (Nat.le_refl _) (fun x hx => packB_byte _ _ x (List.mem_of_mem_take hx)) (by rw [List.length_take]; omega) (ht.below h.bel)).mono ?_
  intro e w' hs
  exact ⟨hs.no (hcut hs.mb), h.below hs.bel⟩
theorem BP.more {w W : World} {l : List Pr} {mb : Nat} {base : Int} {vs : Value} {b : List St} {v u : Value} {N z : Nat} (h : BP w W l mb base vs b v) (hC : buildE l = 0) (ht : Tabs w) (hu : Cd.Bytes N W u (packB base (b.map ofSt) ++ [z])) (hz : z < 256) : Calls Tryd.prog 16 #[u] W fun e w' => e = .returned (.tuple #[.agg #[.int .i64 0, .slice none 0 0], .int .i64 80]) ∧ BP w w' l mb base vs b v := by
  have hl := built_len hC
  have hbad := more_bad hC z
  rw [h.eq] at hl hbad
  simp only at hl hbad
  refine (Unpack_any W.heap.size _ _ W hu.row (Nat.le_refl _) (fun x hx => ?_) (by rw [List.length_append]; simp; omega) (ht.below h.bel)).mono ?_
  · rcases List.mem_append.1 hx with hx | hx
    · exact packB_byte _ _ x hx
    · simp at hx; omega
  intro e w' hs
  exact ⟨hs.no hbad, h.below hs.bel⟩
set_option maxHeartbeats 4000000 in
theorem cuts_walk (v : Value) (n : Int) (z : Nat) (w : World) (ht : Tabs w) (l : List Pr) (h : PRow w v l) (hs : Sm l) (hl : l.length ≤ 9223372036854775807) (hn : -9223372036854775808 ≤ n ∧ n ≤ 9223372036854775807) (hz : z < 256) :
    Calls Tryd.prog 8 #[v, .int .i64 n, .int .u8 z] w fun e w' => e = .returned (.bool true) ∧ Below w.heap.size w w' := by
  have HBLD := Build_any w v l h hl hs ht
  obtain ⟨C, hC⟩ : ∃ C, buildE l = C := ⟨_, rfl⟩
  rw [hC] at HBLD
  have HT : Hid (Tabs w) := ht
  have HC : Hid (buildE l = C) := hC
  have HZ : Hid (z < 256) := hz
  have HB0 : Hid (Calls Tryd.prog 13 #[v] w fun e w' => ∃ base vs b, e = .returned (.tuple #[.agg #[.int .i64 base, vs], .int .i64 C]) ∧ BuildSays w w' l base vs b) := HBLD
  clear h hs ht HBLD hC
  go_enter Tryd.func8, Tryd.ntmps8
  go_upto_region 2 with (go_at_call 13; refine HB0.out.mono ?_; rintro e w1 ⟨base, vs, b, rfl, hS⟩; obtain ⟨sd, nb, sc, hvs, hnb⟩ := StRow.form hS.row; subst hvs; have HS : Hid (BuildSays w w1 l base (.slice sd nb sc) b) := hS; clear hS)
  have HBB := BB.mk' HS.out
  obtain ⟨mb, hmb⟩ : ∃ mb, mb = w1.heap.size := ⟨_, rfl⟩
  obtain ⟨W2, hW2⟩ : ∃ W2, W2 = w1.alloc (.cells #[.int .i64 base, .slice sd nb sc] 24) := ⟨_, rfl⟩
  rw [← hmb, ← hW2] at HBB
  have HB2 : Hid (BB w W2 l mb base (.slice sd nb sc) b) := HBB
  rw [← hmb, ← hW2]
  clear hmb hW2 HBB HS
  by_cases hC0 : C = 0
  · subst hC0
    obtain ⟨q0, q1⟩ := HB2.out.facts
    go_upto_region 5 with (go_at_call 14; refine (HB2.out.pack HC.out HT.out).mono ?_; rintro e w3 ⟨ad, m, cap, rfl, hm, hmc, _, hb3⟩; obtain ⟨g, off, rfl⟩ := hb3.some HC.out; have HB3 : Hid (BP w w3 l mb base (.slice sd nb sc) b (.slice (some ⟨g, off, none⟩) m cap)) := hb3; have HM : Hid ((packB base (b.map ofSt)).length = m) := hm; clear hb3 q0 q1 hm)
    have hm63 : m ≤ 12081684520 := by have h1 := built_len HC.out; rw [HB3.out.eq] at h1; have h2 := HM.out; simp only at h1; omega
    by_cases hneg : n < 0
    · go_wp2_with (first
        | (go_at_call 10; refine (alive_any _ (HT.out.below HB3.out.bel)).mono ?_; rintro e w4 ⟨rfl, hb4⟩; have HB4 : Hid (BP w w4 l mb base (.slice sd nb sc) b (.slice (some ⟨g, off, none⟩) m cap)) := HB3.out.below hb4; clear hb4))
      go_ret
      exact ⟨rfl, HB4.out.bel⟩
    by_cases hbig : (m : Int) ≤ n
    · go_wp2_with (first
        | (go_at_call 10; refine (alive_any _ (HT.out.below HB3.out.bel)).mono ?_; rintro e w4 ⟨rfl, hb4⟩; have HB4 : Hid (BP w w4 l mb base (.slice sd nb sc) b (.slice (some ⟨g, off, none⟩) m cap)) := HB3.out.below hb4; clear hb4))
      go_ret
      exact ⟨rfl, HB4.out.bel⟩
    obtain ⟨k, rfl⟩ : ∃ k : Nat, n = (k : Int) := ⟨n.toNat, by omega⟩
    have hkm : k < m := by omega
    have hkc : (k : Int) ≤ (cap : Int) := by omega
    have hkl : (k : Int) < (m : Int) := by omega
    have HK : Hid (k < (packB base (b.map ofSt)).length) := by show _ < _; have := HM.out; omega
    go_upto_region 8 with (go_at_call 16; refine (HB3.out.cut HC.out HT.out HK.out).mono ?_; rintro e w4 ⟨rfl, hb4⟩; have HB4 : Hid (BP w w4 l mb base (.slice sd nb sc) b (.slice (some ⟨g, off, none⟩) m cap)) := hb4; clear hb4)
    obtain ⟨W5, hW5⟩ : ∃ W5, W5 = w4.alloc (.cells #[.int .i64 0, .slice none 0 0] 24) := ⟨_, rfl⟩
    have HB5 : Hid (BP w W5 l mb base (.slice sd nb sc) b (.slice (some ⟨g, off, none⟩) m cap)) := by show BP _ _ _ _ _ _ _ _; rw [hW5]; exact HB4.out.below ((Below.refl _ w4).alloc (Nat.le_refl _) _)
    rw [← hW5]
    clear hW5 HB4 hneg hbig hkc hkl hkm HK
    obtain ⟨zs, hzs⟩ : ∃ zs, packB base (b.map ofSt) = zs := ⟨_, rfl⟩
    have HZS : Hid (packB base (b.map ofSt) = zs) := hzs
    have HM2 : Hid (zs.length = m) := by show _ = _; rw [← hzs]; exact HM.out
    have HA1 : Hid (Below W5.heap.size W5 (W5.alloc (Obj.cells #[] 5))) := (Below.refl _ _).alloc (Nat.le_refl _) _
    have HR5 : Hid (Cd.Row W5.heap.size (W5.alloc (Obj.cells #[] 5)) (.slice (some ⟨g, off, none⟩) m cap) zs) := by show Cd.Row _ _ _ _; rw [← hzs]; exact HB5.out.by'.row.below HA1.out
    clear hzs
    go_wp2_with (at_builtin; refine Cd.append_row (by rfl) _ _ rfl W5.heap.size W5.heap.size _ _ [] zs rfl (Cd.bytes_none _ _ (Nat.le_refl _)) rfl HR5.out (by have := HM2.out; simp; omega) (by simp) ?_)
    intro v6 w6 hown6 hb6 _
    have HB6 : Hid (Below W5.heap.size W5 w6) := HA1.out.trans hb6
    have HO6 : Hid (Cd.Bytes W5.heap.size w6 v6 zs) := hown6
    have hsz6 : W5.heap.size ≤ w6.heap.size := HB6.out.size
    clear hown6 hb6 HA1 HR5
    go_wp2_with (at_builtin; refine Cd.append_row (by rfl) _ _ rfl W5.heap.size (w6.heap.size + 1) _ _ zs [z] rfl (Cd.Bytes.alloc HO6.out _) rfl (Cd.row_one _ _ _ rfl) (by have := HM2.out; simp; omega) (by simp; omega) ?_)
    intro v7 w7 hown7 hb7 _
    have HB7 : Hid (Below W5.heap.size W5 w7) := (HB6.out.alloc hsz6 _).trans hb7
    have HO7 : Hid (Cd.Bytes W5.heap.size w7 v7 (packB base (b.map ofSt) ++ [z])) := by show Cd.Bytes _ _ _ _; rw [HZS.out]; exact hown7
    have HP7 : Hid (BP w w7 l mb base (.slice sd nb sc) b (.slice (some ⟨g, off, none⟩) m cap)) := HB5.out.below HB7.out
    clear hown7 hb7 HB6 HO6 hsz6
    go_upto_region 9 with (go_at_call 16; refine (HP7.out.more HC.out HT.out HO7.out HZ.out).mono ?_; rintro e w8 ⟨rfl, hb8⟩; have HP8 : Hid (BP w w8 l mb base (.slice sd nb sc) b (.slice (some ⟨g, off, none⟩) m cap)) := hb8; clear hb8)
    obtain ⟨W9, hW9⟩ : ∃ W9, W9 = w8.alloc (.cells #[.int .i64 0, .slice none 0 0] 24) := ⟨_, rfl⟩
    have HP9 : Hid (BP w W9 l mb base (.slice sd nb sc) b (.slice (some ⟨g, off, none⟩) m cap)) := by show BP _ _ _ _ _ _ _ _; rw [hW9]; exact HP8.out.below ((Below.refl _ w8).alloc (Nat.le_refl _) _)
    rw [← hW9]
    clear hW9 HP8
    go_wp2_with (first
      | (go_at_call 10; refine (alive_any _ (HT.out.below HP9.out.bel)).mono ?_; rintro e w10 ⟨rfl, hb10⟩; have HP10 : Hid (BP w w10 l mb base (.slice sd nb sc) b (.slice (some ⟨g, off, none⟩) m cap)) := HP9.out.below hb10; clear hb10))
    go_ret
    exact ⟨rfl, HP10.out.bel⟩
  · have hCb : (C == 0) = false := beq_eq_false_iff_ne.2 hC0
    have hCn : (C != 0) = true := by simp [bne, hCb]
    go_wp2_with (first
      | (go_at_call 10; refine (alive_any _ (HT.out.below HB2.out.bel)).mono ?_; rintro e w3 ⟨rfl, hb3⟩; have HB3 : Hid (BB w w3 l mb base (.slice sd nb sc) b) := HB2.out.below hb3; clear hb3))
    go_ret
    exact ⟨rfl, HB3.out.bel⟩
end Go.Proofs.YtdidcombjmbkdaaDoor
