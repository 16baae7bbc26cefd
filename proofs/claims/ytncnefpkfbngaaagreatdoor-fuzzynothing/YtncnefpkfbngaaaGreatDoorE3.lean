/- Texts that were written apart, joined. -/
import Derived.Test.YtncnefpkfbngaaaGreatDoorE1
import Derived.Test.YtncnefpkfbngaaaGreatDoorG8
/- The reference's Far: the same distance. -/
namespace Go.Proofs.YtncnefpkfbngaaaGreatDoor
open Go.RowKit Nums Ed
set_option maxRecDepth 100000

/-- A row of numbers that the call has made. -/
def MadeI (B : Nat) (w : World) (v : Value) (xs : List Int) : Prop := w.ownsRow B 3 1 v xs.length (xs.map (Value.int .i64))
theorem MadeI.below {B : Nat} {w w' : World} {v : Value} {xs : List Int} (h : MadeI B w v xs) (hb : Below w.heap.size w w') : MadeI B w' v xs := by
 obtain ⟨hl, hn | ⟨g, cap, cur, rfl, h1, hg, h2⟩⟩ := h
 · exact ⟨hl, .inl hn⟩
 · exact ⟨hl, .inr ⟨g, cap, cur, rfl, h1, (hb.block g (Array.getElem?_eq_some_iff.1 hg).1).trans hg, h2⟩⟩
theorem MadeI.mono {B B' : Nat} {w : World} {v : Value} {xs : List Int} (h : MadeI B w v xs) (hB : B' ≤ B) : MadeI B' w v xs := by
 obtain ⟨hl, hn | ⟨g, cap, cur, rfl, h1, h2⟩⟩ := h
 · exact ⟨hl, .inl hn⟩
 · exact ⟨hl, .inr ⟨g, cap, cur, rfl, by omega, h2⟩⟩
theorem MadeI.at {B : Nat} {w : World} {v : Value} {xs : List Int} (h : MadeI B w v xs) (h0 : 0 < xs.length) : ∃ g cap, v = .slice (some ⟨g, 0, none⟩) xs.length cap ∧ ∀ (i : Nat) (x : Int), xs[i]? = some x → w.cell? ⟨g, i, none⟩ = some (.int .i64 x) := by
 obtain ⟨hl, hn | ⟨g, cap, cur, rfl, hb, hg, h1, h2, h3, h4⟩⟩ := h
 · omega
 · refine ⟨g, cap, rfl, fun i x hi => ?_⟩
   have hi' := (List.getElem?_eq_some_iff.1 hi).1
   have hc : cur[i]? = some (.int .i64 x) := by
    have e : (cur.toList.take (xs.length * 1))[i]? = (xs.map (Value.int .i64))[i]? := by rw [h4]
    rw [List.getElem?_take, if_pos (by omega)] at e
    rw [← Array.getElem?_toList, e, List.getElem?_map, hi]
    rfl
   simp only [World.cell?, hg]
   simpa using hc
theorem MadeI.new (w : World) (x : Int) : MadeI w.heap.size (w.alloc (.cells #[.int .i64 x] 3)) (.slice (some ⟨w.heap.size, 0, none⟩) 1 1) [x] :=
 ⟨rfl, .inr ⟨w.heap.size, 1, #[.int .i64 x], rfl, Nat.le_refl _, (MapKept.heap_alloc w _).1, Nat.le_refl _, by decide, rfl, rfl⟩⟩

attribute [local go_sem ↓] run_min3
set_option maxHeartbeats 1000000 in
theorem Far_any (vx vy : Value) (xs ys : List Int) (w : World) (hx : RunesAt w.heap.size w vx xs) (hy : RunesAt w.heap.size w vy ys) (hxl : xs.length ≤ 2000) (hyl : ys.length ≤ 2000) :
 Calls Tryz.prog 44 #[vx, vy] w fun e w' => e = .returned (.int .i64 (lv xs ys : Int)) ∧ Below w.heap.size w w' := by
 obtain ⟨i0, hi, hz0, hz1, hz2⟩ := info_parts infoInt
 obtain ⟨adx, capx, rfl⟩ := hx.form
 obtain ⟨ady, capy, rfl⟩ := hy.form
 have HX : Hid (RunesAt w.heap.size w (.slice adx xs.length capx) xs) := hx
 have HY : Hid (RunesAt w.heap.size w (.slice ady ys.length capy) ys) := hy
 clear hx hy
 go_enter Tryz.func44, Tryz.ntmps44
 go_wp2
 go_loopw [5, 6] (fun v j wr => ∃ (k : Nat) (v0 : Value), v0 = v ∧ k ≤ ys.length + 1 ∧ j = .int .i64 k ∧ MadeI w.heap.size wr v ((dr [] ys).take k) ∧ Below w.heap.size w wr) (fun _ j _ => ys.length + 1 - (intOf j).toNat)
 case atStart => exact ⟨0, _, rfl, by omega, rfl, World.ownsRow_nil _ _ _ _, Below.refl _ _⟩
 case round =>
  obtain ⟨k, v0, hv0, hk, rfl, hM, hbel⟩ := hrel
  subst hv0
  by_cases hlt : k ≤ ys.length
  · have hlen : Hid (((dr [] ys).take k).length = k) := tdr_len _ _ (by omega)
    go_wp2_with (at_builtin; refine wpList_append_own _ rfl _ _ 90 rfl w.heap.size 3 i0 (.int .i64 0) 1 8 Tryz.underlying90 hi hz0 hz1 hz2 rfl (by decide) _ _ _ rfl (World.ownsRow.alloc hM _) ⟨wr.heap.size, 0, none⟩ 1 1 [.int .i64 k] rfl rfl ?c1 ?c2 ?c3 ?c4 ?c5 ?_)
    case c1 =>
     intro j u hj
     match j, hj with
     | 0, hj => simp at hj; subst hj; simp [Addr.add]
    case c2 => intro u hu; simp at hu; subst hu; rfl
    case c3 => unfold maxLen; rw [hlen.out]; omega
    case c4 => rw [hlen.out]; omega
    case c5 => have := hbel.size; simp; omega
    intro v' w1 hown' hgrow _
    have hM2 : Hid (MadeI w.heap.size w1 v' ((dr [] ys).take (k + 1))) := by
     unfold Hid MadeI
     rw [List.take_add_one, dr_start _ hlt]
     simpa using hown'
    have hb1 : Below w.heap.size w w1 := (hbel.alloc hbel.size _).grown hgrow (by have := hbel.size; simp; omega) (fun k hk => (World.ownsRow.lt hM k hk).1)
    clear hown' hgrow hM
    go_wp2
    go_roundw
    case rel => exact ⟨k + 1, _, rfl, by omega, by go_num, hM2.out, hb1⟩
    case measure => simp [intOf]; omega
  · obtain rfl : k = ys.length + 1 := by omega
    have HM : Hid (MadeI w.heap.size wr v0 (dr (xs.take 0) ys)) := by
     rw [List.take_of_length_le (by rw [dr_len]; omega)] at hM
     exact hM
    clear hM
    obtain ⟨wa, hwa⟩ : ∃ wa : World, wa = wr := ⟨_, rfl⟩
    subst hwa
    go_wp2
    go_loopw [5, 7] (fun v i wr => ∃ (k : Nat) (v1 : Value), v1 = v ∧ k ≤ xs.length ∧ i = .int .i64 ((k : Int) + 1) ∧ MadeI w.heap.size wr v (dr (xs.take k) ys) ∧ Below w.heap.size w wr) (fun _ i _ => xs.length + 1 - (intOf i).toNat)
    case atStart => exact ⟨0, _, rfl, Nat.zero_le _, rfl, HM.out, hbel⟩
    case round =>
     obtain ⟨k, v1, hv1, hk, rfl, hM, hb1⟩ := hrel
     subst hv1
     clear HM hbel
     obtain ⟨wb, hwb⟩ : ∃ wb : World, wb = wr := ⟨_, rfl⟩
     subst hwb
     have HM : Hid (MadeI w.heap.size wb v1 (dr (xs.take k) ys)) := hM
     clear hM
     obtain ⟨gr, capr, rfl, hcr⟩ := HM.out.at (by rw [dr_len]; omega)
     have HCR : Hid (∀ (i : Nat) (x : Int), (dr (xs.take k) ys)[i]? = some x → wb.cell? ⟨gr, i, none⟩ = some (.int .i64 x)) := hcr
     clear hcr
     rw [dr_len] at *
     by_cases hlt : k < xs.length
     · obtain ⟨r, hr⟩ : ∃ r, xs[k]? = some r := ⟨_, List.getElem?_eq_getElem hlt⟩
       have HT : Hid (xs.take (k + 1) = xs.take k ++ [r]) := by unfold Hid; rw [List.take_add_one, hr]; rfl
       obtain ⟨gx, offx, rfl, hgx, hcx⟩ := (HX.out.below hb1).at hr
       have hgxb : gx < wb.heap.size := Nat.lt_of_lt_of_le hgx hb1.size
       clear hr
       have hkd : decide ((k : Int) + 1 ≤ (xs.length : Int)) = true := by simp; omega
       have hk1 : IntKind.i64.wrap ((k : Int) + 1 - 1) = (k : Int) := by rw [IntKind.wrap_i64]; omega
       go_wp2
       go_loopw [8, 9] (fun u j wr => ∃ (q Q : Nat) (u0 : Value), u0 = u ∧ Q = q + 1 ∧ q ≤ ys.length ∧ j = .int .i64 (Q : Int) ∧ MadeI wb.heap.size wr u ((dr (xs.take k ++ [r]) ys).take (q + 1)) ∧ Below wb.heap.size wb wr) (fun _ j _ => ys.length + 1 - (intOf j).toNat)
       case atStart =>
        refine ⟨0, 1, _, rfl, rfl, Nat.zero_le _, rfl, ?_, (Below.refl _ _).alloc (Nat.le_refl _) _⟩
        have := MadeI.new wb ((k : Int) + 1)
        rw [take_dr _ _ (Nat.zero_le _), List.take_zero, List.take_zero, lv_right, List.nil_append, List.length_append, List.length_take, Nat.min_eq_left (by omega)]
        simpa using this
       case round =>
        obtain ⟨q, Q, u0, hu0, hQ, hq, rfl, hN, hb2⟩ := hrel
        subst hu0
        have HQ : Hid (Q = q + 1) := hQ
        clear hQ
        have hlen : Hid (((dr (xs.take k ++ [r]) ys).take (q + 1)).length = q + 1) := tdr_len _ _ (by omega)
        have HN : Hid (MadeI wb.heap.size wr u0 ((dr (xs.take k ++ [r]) ys).take (q + 1))) := hN
        clear hN
        obtain ⟨gn, capn, rfl, hcn⟩ := HN.out.at (by rw [hlen.out]; omega)
        have HN2 : Hid (wr.ownsRow wb.heap.size 3 1 (.slice (some ⟨gn, 0, none⟩) (q + 1) capn) (q + 1) (((dr (xs.take k ++ [r]) ys).take (q + 1)).map (Value.int .i64))) := by
         have := HN.out
         unfold MadeI at this
         rwa [hlen.out] at this
        rw [hlen.out]
        clear HN
        by_cases hlt2 : q < ys.length
        · obtain ⟨s, hs⟩ : ∃ s, ys[q]? = some s := ⟨_, List.getElem?_eq_getElem hlt2⟩
          obtain ⟨gy, offy, rfl, hgy, hcy⟩ := ((HY.out.below hb1).below (hb2.mono hb1.size)).at hs
          have hcx2 : wr.cell? ⟨gx, offx + k, none⟩ = some (.int .i32 r) := (hb2.cell (p := ⟨gx, offx + k, none⟩) hgxb).trans hcx
          have hgrb : gr < wb.heap.size := lt_of_cell (HCR.out 0 _ (dr_first _ _))
          have hR0 : wr.cell? ⟨gr, q, none⟩ = some (.int .i64 (lv (xs.take k) (ys.take q) : Int)) := (hb2.cell (p := ⟨gr, q, none⟩) hgrb).trans (HCR.out q _ (dr_get _ _ (by omega)))
          have hR1 : wr.cell? ⟨gr, Q, none⟩ = some (.int .i64 (lv (xs.take k) (ys.take (q + 1)) : Int)) := by rw [HQ.out]; exact (hb2.cell (p := ⟨gr, q + 1, none⟩) hgrb).trans (HCR.out (q + 1) _ (dr_get _ _ (by omega)))
          have hN0 : wr.cell? ⟨gn, q, none⟩ = some (.int .i64 (lv (xs.take k ++ [r]) (ys.take q) : Int)) := hcn q _ (by rw [List.getElem?_take, if_pos (by omega), dr_get _ _ (by omega)])
          have b0 := dr_bd (xs.take k) ys q
          have b1 := dr_bd (xs.take k) ys (q + 1)
          have b2 := dr_bd (xs.take k ++ [r]) ys q
          have hkl : (xs.take k).length ≤ 2000 := by rw [List.length_take]; omega
          rw [List.length_append, List.length_singleton] at b2
          have HNX : Hid _ := dr_next (xs.take k) ys r hs
          generalize hd0 : lv (xs.take k) (ys.take q) = d0 at *
          generalize hd1 : lv (xs.take k) (ys.take (q + 1)) = d1 at *
          generalize hd2 : lv (xs.take k ++ [r]) (ys.take q) = d2 at *
          clear hd0 hd1 hd2 hcn hs
          obtain ⟨d3, hd3⟩ : ∃ d3, d3 = lv (xs.take k ++ [r]) (ys.take (q + 1)) := ⟨_, rfl⟩
          rw [← hd3] at HNX
          have HD3 : Hid (d3 = lv (xs.take k ++ [r]) (ys.take (q + 1))) := hd3
          clear hd3
          have hwq : IntKind.i64.wrap ((Q : Int) - 1) = (q : Int) := by rw [IntKind.wrap_i64]; have := HQ.out; omega
          have hQb : (Q : Int) < (ys.length : Int) + 1 := by have := HQ.out; omega
          have hQl : (Q : Int) ≤ (ys.length : Int) := by have := HQ.out; omega
          have hwd0 : IntKind.i64.wrap ((d0 : Int) + 1) = (d0 : Int) + 1 := by rw [IntKind.wrap_i64]; omega
          have hwd1 : IntKind.i64.wrap ((d1 : Int) + 1) = (d1 : Int) + 1 := by rw [IntKind.wrap_i64]; omega
          have hwd2 : IntKind.i64.wrap ((d2 : Int) + 1) = (d2 : Int) + 1 := by rw [IntKind.wrap_i64]; omega
          have hwQ : IntKind.i64.wrap ((Q : Int) + 1) = (Q : Int) + 1 := by rw [IntKind.wrap_i64]; have := HQ.out; omega
          by_cases hsr : s = r
          · obtain rfl : r = s := hsr.symm
            have HM3 : Hid (min3 ((d2 : Int) + 1) ((d1 : Int) + 1) (d0 : Int) = (d3 : Int)) := by
             have := HNX.out
             rw [if_pos rfl] at this
             unfold Hid min3
             split <;> split at * <;> omega
            go_wp2
            go_quiet (fail)
            go_wp2_with (at_builtin; refine wpList_append_own _ rfl _ _ 90 rfl wb.heap.size 3 i0 (.int .i64 0) 1 8 Tryz.underlying90 hi hz0 hz1 hz2 rfl (by decide) _ _ _ rfl (World.ownsRow.alloc (w := wr.drewN _) HN2.out _) ⟨wr.heap.size, 0, none⟩ 1 1 [.int .i64 (min3 ((d2 : Int) + 1) ((d1 : Int) + 1) (d0 : Int))] rfl rfl ?c1 ?c2 ?c3 ?c4 ?c5 ?_)
            case c1 =>
             intro j u hj
             match j, hj with
             | 0, hj => simp at hj; subst hj; exact new_cell (wr.drewN _) _ _
            case c2 => intro u hu; simp at hu; subst hu; rfl
            case c3 => unfold maxLen; omega
            case c4 => omega
            case c5 => have := hb2.size; simp; omega
            intro v' w5 hown' hgrow _
            have hM2 : Hid (MadeI wb.heap.size w5 v' ((dr (xs.take k ++ [r]) ys).take (q + 1 + 1))) := by
             unfold Hid MadeI
             rw [take_dr _ _ (show q + 1 ≤ ys.length by omega), ← HD3.out, List.length_append, hlen.out]
             rw [HM3.out] at hown'
             simpa using hown'
            have hb5 : Below wb.heap.size wb w5 := ((below_drewN hb2 _).alloc (by simpa using hb2.size) _).grown hgrow (by have := hb2.size; simp; omega) (fun k hk => (World.ownsRow.lt HN2.out k hk).1)
            clear hown' hgrow
            go_wp2
            go_roundw
            case rel =>
             repeat (apply Exists.intro)
             refine ⟨?_, rfl⟩
             exact ⟨q + 1, Q + 1, _, rfl, by rw [HQ.out], by omega, by go_num, hM2.out, hb5⟩
            case measure => simp [intOf]; have := HQ.out; omega
          · have hsb : (r == s) = false := by simpa using fun e => hsr e.symm
            have HM3 : Hid (min3 ((d2 : Int) + 1) ((d1 : Int) + 1) ((d0 : Int) + 1) = (d3 : Int)) := by
             have := HNX.out
             rw [if_neg hsr] at this
             unfold Hid min3
             split <;> split at * <;> omega
            clear hsr
            go_wp2
            go_quiet (fail)
            go_wp2_with (at_builtin; refine wpList_append_own _ rfl _ _ 90 rfl wb.heap.size 3 i0 (.int .i64 0) 1 8 Tryz.underlying90 hi hz0 hz1 hz2 rfl (by decide) _ _ _ rfl (World.ownsRow.alloc (w := wr.drewN _) HN2.out _) ⟨wr.heap.size, 0, none⟩ 1 1 [.int .i64 (min3 ((d2 : Int) + 1) ((d1 : Int) + 1) ((d0 : Int) + 1))] rfl rfl ?c1 ?c2 ?c3 ?c4 ?c5 ?_)
            case c1 =>
             intro j u hj
             match j, hj with
             | 0, hj => simp at hj; subst hj; exact new_cell (wr.drewN _) _ _
            case c2 => intro u hu; simp at hu; subst hu; rfl
            case c3 => unfold maxLen; omega
            case c4 => omega
            case c5 => have := hb2.size; simp; omega
            intro v' w5 hown' hgrow _
            have hM2 : Hid (MadeI wb.heap.size w5 v' ((dr (xs.take k ++ [r]) ys).take (q + 1 + 1))) := by
             unfold Hid MadeI
             rw [take_dr _ _ (show q + 1 ≤ ys.length by omega), ← HD3.out, List.length_append, hlen.out]
             rw [HM3.out] at hown'
             simpa using hown'
            have hb5 : Below wb.heap.size wb w5 := ((below_drewN hb2 _).alloc (by simpa using hb2.size) _).grown hgrow (by have := hb2.size; simp; omega) (fun k hk => (World.ownsRow.lt HN2.out k hk).1)
            clear hown' hgrow
            go_wp2
            go_roundw
            case rel =>
             repeat (apply Exists.intro)
             refine ⟨?_, rfl⟩
             exact ⟨q + 1, Q + 1, _, rfl, by rw [HQ.out], by omega, by go_num, hM2.out, hb5⟩
            case measure => simp [intOf]; have := HQ.out; omega
        · obtain rfl : q = ys.length := by omega
          have hQl : ¬ (Q : Int) ≤ (ys.length : Int) := by have := HQ.out; omega
          have hwK : IntKind.i64.wrap ((k : Int) + 1 + 1) = (k : Int) + 1 + 1 := by rw [IntKind.wrap_i64]; omega
          go_wp2
          go_roundw
          case rel =>
           refine ⟨k + 1, _, rfl, by omega, by go_num, ?_, hb1.trans (hb2.mono hb1.size)⟩
           refine MadeI.mono (B := wb.heap.size) ?_ hb1.size
           unfold MadeI
           rw [HT.out, dr_len]
           have := HN2.out
           rw [List.take_of_length_le (by rw [dr_len]; omega)] at this
           exact this
          case measure => simp [intOf]; omega
     · obtain rfl : k = xs.length := by omega
       have hc : wb.cell? ⟨gr, ys.length, none⟩ = some (.int .i64 (lv xs ys : Int)) := by
        have := HCR.out ys.length _ (dr_last _ _)
        rwa [List.take_of_length_le (Nat.le_refl _)] at this
       go_wp2
       go_ret
       exact ⟨rfl, hb1⟩
end Go.Proofs.YtncnefpkfbngaaaGreatDoor

/- The reference's Distance. -/
namespace Go.Proofs.YtncnefpkfbngaaaGreatDoor
open Go.RowKit Nums Ed
set_option maxRecDepth 100000

/-- What the reference's Runes has told of a text. -/
def RunSays (w w' : World) (l : List UInt8) (v : Value) (f : Bool) : Prop :=
 (f = false ∧ rs l = none ∧ v = .slice none 0 0) ∨ (f = true ∧ ∃ xs, rs l = some xs ∧ Made w.heap.size w' v xs)
theorem RefRunes_is (s : ByteArray) (w : World) (hm : s.size ≤ 1100000) :
 Calls Tryz.prog 43 #[.string s] w fun e w' => ∃ v f, e = .returned (.tuple #[v, .bool f]) ∧ Below w.heap.size w w' ∧ RunSays w w' s.data.toList v f := by
 refine (RefRunes_any s w (by omega) (room_of_length (by rw [size_length]; omega))).mono ?_
 rintro e w' ⟨v, hb, ⟨hn, rfl, rfl⟩ | ⟨xs, hs, rfl, hm⟩⟩
 · exact ⟨_, _, rfl, hb, .inl ⟨rfl, hn, rfl⟩⟩
 · exact ⟨_, _, rfl, hb, .inr ⟨rfl, xs, hs, hm⟩⟩

set_option maxHeartbeats 1000000 in
theorem refDistance_is (a b : ByteArray) (w : World) (ha : a.size ≤ 1048576) (hb : b.size ≤ 1048576) :
 Calls Tryz.prog 24 #[.string a, .string b] w fun e w' => e = .returned (.tuple #[.int .i64 (dN (dsE a.data.toList b.data.toList)), .bool (dF (dsE a.data.toList b.data.toList))]) ∧ Below w.heap.size w w' := by
 go_enter Tryz.func24, Tryz.ntmps24
 go_upto_region 2 with (go_at_call 43; refine (RefRunes_is a _ (by omega)).mono ?_; rintro e w1 ⟨v, f, rfl, hb1, hc1⟩)
 go_upto_region 3 with (go_at_call 43; refine (RefRunes_is b _ (by omega)).mono ?_; rintro e w2 ⟨u, f2, rfl, hb2, hc2⟩)
 have hb12 : Below w.heap.size w w2 := hb1.trans (hb2.mono hb1.size)
 rcases hc1 with ⟨rfl, h1, rfl⟩ | ⟨rfl, xs, h1, m1⟩
 · have HF : Hid (dsE a.data.toList b.data.toList = none) := dsE_left (rsE_none h1)
   clear h1 hc2
   go_wp2
   go_ret2
   exact ⟨by rw [HF.out]; rfl, hb12⟩
 rcases hc2 with ⟨rfl, h2, rfl⟩ | ⟨rfl, ys, h2, m2⟩
 · have HF : Hid (dsE a.data.toList b.data.toList = none) := dsE_right (rsE_none h2)
   clear h1 h2
   go_wp2
   go_ret2
   exact ⟨by rw [HF.out]; rfl, hb12⟩
 have HX : Hid (RunesAt w2.heap.size w2 v xs) := (m1.below hb2).runesE
 have HY : Hid (RunesAt w2.heap.size w2 u ys) := m2.runesE
 clear m1 m2
 obtain ⟨adx, capx, rfl⟩ := HX.out.form
 obtain ⟨ady, capy, rfl⟩ := HY.out.form
 have hxl := (rs_len h1).2
 have hyl := (rs_len h2).2
 rw [size_length] at hxl hyl
 by_cases hx : xs.length ≤ 1024
 · by_cases hy : ys.length ≤ 1024
   · have HF : Hid (dsE a.data.toList b.data.toList = some (lv xs ys)) := dsE_some (rsE_some h1 hx) (rsE_some h2 hy)
     clear h1 h2
     go_wp2_with (go_at_call 44; refine (Far_any _ _ xs ys _ HX.out HY.out (by omega) (by omega)).mono ?_; rintro e w3 ⟨rfl, hb3⟩)
     go_ret2
     exact ⟨by rw [HF.out]; rfl, hb12.trans (hb3.mono hb12.size)⟩
   · have HF : Hid (dsE a.data.toList b.data.toList = none) := dsE_right (rsE_long h2 hy)
     clear h1 h2
     go_wp2
     go_ret2
     exact ⟨by rw [HF.out]; rfl, hb12⟩
 · have HF : Hid (dsE a.data.toList b.data.toList = none) := dsE_left (rsE_long h1 hx)
   clear h1 h2
   go_wp2
   go_ret2
   exact ⟨by rw [HF.out]; rfl, hb12⟩
end Go.Proofs.YtncnefpkfbngaaaGreatDoor

/- Cut: what the seat's translation lacks is left out. -/
/- EditBounds: the walk. -/
namespace Go.Proofs.YtncnefpkfbngaaaGreatDoor
open Go.RowKit Nums Ed
set_option maxRecDepth 100000

/-- The runes of a text, or none. -/
def rl (l : List UInt8) : List Int := (rs l).getD []
theorem rl_some {l : List UInt8} {xs : List Int} (h : rs l = some xs) : rl l = xs := by unfold rl; rw [h]; rfl
theorem RunSays.runesE {w w' : World} {l : List UInt8} {v : Value} {f : Bool} (h : RunSays w w' l v f) : RunesAt w'.heap.size w' v (rl l) := by
 rcases h with ⟨_, h, rfl⟩ | ⟨_, xs, h, m⟩
 · unfold rl; rw [h]; exact ⟨none, 0, rfl, fun h => by simp at h⟩
 · rw [rl_some h]; exact m.runesE
def max2 (a b : Int) : Int := if a < b then b else a
theorem run_max2 (ts : Array TypeId) (ty : TypeId) (k : IntKind) (a b : Int) (w : World) : (Builtin.max_ ts ty #[.int k a, .int k b]).run Tryz.prog w = .ok (.int k (max2 a b)) w := by
 simp [Builtin.max_, Builtin.max2, max2, Sem.run_pure]
attribute [local go_sem ↓] run_max2

end Go.Proofs.YtncnefpkfbngaaaGreatDoor
