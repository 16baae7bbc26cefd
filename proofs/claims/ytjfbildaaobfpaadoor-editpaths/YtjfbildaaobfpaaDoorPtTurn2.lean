/- edit.turned: the walk. -/
import Derived.Test.YtjfbildaaobfpaaDoorPtTurn
namespace Go.Proofs.YtjfbildaaobfpaaDoor
open Go.RowKit Nums Ed
set_option maxRecDepth 100000

/-- What a place is once it was looked at. -/
def okp (p : Bool) (x y : Int) : Prop := x = y ∨ (p = false ∧ x = -1)

set_option maxHeartbeats 1000000 in
theorem turned_any (w0 : World) (vl vt : Value) (gl gt : Nat) (line to : List Int) (w : World) (ht0 : Tabs w0) (hb0 : Below w0.heap.size w0 w) (hgl0 : w0.heap.size ≤ gl) (hL : LAt w vl gl line) (hT : LAt w vt gt to) (hne : gt ≠ gl) (hlen : line.length = to.length) (hsm : to.length ≤ 100000) (hokL : ∀ x ∈ line, okR x) (hokT : ∀ x ∈ to, okR x) :
    Calls Tryd.prog 26 #[vl, vt] w fun e w' => ∃ v ls, e = .returned v ∧ SMade w.heap.size w' v (ls.map textS) ∧ Way ls (un line) (un to) ∧ ls.length = dif line to + 1 ∧ (∀ l ∈ ls, l.all isR = true ∧ l.length ≤ line.length) ∧ But gl w w' := by
  obtain ⟨i0, hi, hz0, hz1, hz2⟩ := info_parts infoStr
  obtain ⟨adt, capt, rfl⟩ := hT.runes.form
  have HT : Hid (LAt w (.slice adt to.length capt) gt to) := hT
  have HL : Hid (LAt w vl gl line) := hL
  have HOL : Hid (∀ x ∈ line, okR x) := hokL
  have HOT : Hid (∀ x ∈ to, okR x) := hokT
  have HLEN : Hid (line.length = to.length) := hlen
  clear hL hT hokL hokT hlen
  go_enter Tryd.func26, Tryd.ntmps26
  go_upto_region 2 with (go_at_call 32; refine (esaid_any vl gl line _ (ht0.below hb0) HL.out (by have := HLEN.out; omega)).mono ?_; rintro e w1 ⟨rfl, hb1⟩)
  obtain ⟨W1, hW1⟩ : ∃ W1, W1 = w1.alloc (.cells #[.string (textS (un line))] 9) := ⟨_, rfl⟩
  obtain ⟨W2, hW2⟩ : ∃ W2, W2 = W1.alloc (.cells #[.bool false, .bool true] 4) := ⟨_, rfl⟩
  obtain ⟨gs, hgs⟩ : ∃ gs, gs = w1.heap.size := ⟨_, rfl⟩
  obtain ⟨gb, hgb⟩ : ∃ gb, gb = W1.heap.size := ⟨_, rfl⟩
  have hbW1 : Below w1.heap.size w1 W1 := by rw [hW1]; exact (Below.refl _ w1).alloc (Nat.le_refl _) _
  have hbW2 : Below W1.heap.size W1 W2 := by rw [hW2]; exact (Below.refl _ W1).alloc (Nat.le_refl _) _
  have hbA : Below w.heap.size w W1 := hb1.trans (hbW1.mono hb1.size)
  have hbB : Below w.heap.size w W2 := hbA.trans (hbW2.mono hbA.size)
  have HTI : Hid (TI w W2 vl gl gb line to line [un line] (.slice (some ⟨gs, 0, none⟩) 1 1)) := by
    refine ⟨?_, Way.one _, by simp; omega, fun l hl => by rw [List.mem_singleton.1 hl]; exact ⟨un_isR HOL.out, List.length_filter_le _ _⟩, HL.out.below hbB, rfl, HOL.out, ?_, But.of_below hbB⟩
    · have h1 := (SMade.new w1 (textS (un line))).mono hb1.size
      rw [← hW1, ← hgs] at h1
      exact h1.same fun g hg => hbW2.block g ((h1.block hg).2.1)
    · rw [hgb, hW2]; exact (MapKept.heap_alloc W1 _).1
  have hgbw : w.heap.size ≤ gb := by rw [hgb]; exact hbA.size
  rw [← hW1, ← hgs]
  clear hbW1 hbW2 hbA hbB hb1
  have HW2 : Hid (W2 = W1.alloc (.cells #[.bool false, .bool true] 4)) := hW2
  have HGB : Hid (gb = W1.heap.size) := hgb
  clear hW1 hW2 hgs hgb
  go_wp2
  rw [← HW2.out]
  simp only [← HGB.out]
  go_loopw [5, 15] (fun v i wr => ∃ (q : Nat) (cur : List Int) (ls : List (List Int)) (v0 : Value), v0 = v ∧ q ≤ 2 ∧ i = .int .i64 q ∧ TI w wr vl gl gb line to cur ls v ∧ (1 ≤ q → ∀ (k : Nat) (x y : Int), cur[k]? = some x → to[k]? = some y → okp false x y) ∧ (2 ≤ q → ∀ (k : Nat) (x y : Int), cur[k]? = some x → to[k]? = some y → x = y)) (fun _ i _ => 2 - (intOf i).toNat)
  case atStart => exact ⟨0, line, _, _, rfl, by omega, rfl, HTI.out, fun h => absurd h (by omega), fun h => absurd h (by omega)⟩
  case round =>
    obtain ⟨q, cur0, ls0, v0, hv0, hq, rfl, hTI0, hok1, hok2⟩ := hrel
    subst hv0
    obtain ⟨wa, hwa⟩ : ∃ wa : World, wa = wr := ⟨_, rfl⟩
    subst hwa
    have HT0 : Hid (TI w wa vl gl gb line to cur0 ls0 v0) := hTI0
    have HK1 : Hid (1 ≤ q → ∀ (k : Nat) (x y : Int), cur0[k]? = some x → to[k]? = some y → okp false x y) := hok1
    have HK2 : Hid (2 ≤ q → ∀ (k : Nat) (x y : Int), cur0[k]? = some x → to[k]? = some y → x = y) := hok2
    clear hTI0 hok1 hok2 HTI
    by_cases hlt : q < 2
    · obtain ⟨p, hp⟩ : ∃ p : Bool, p = decide (q = 1) := ⟨_, rfl⟩
      have hcb : wa.cell? ⟨gb, q, none⟩ = some (.bool p) := by
        have hb := HT0.out.bls
        obtain rfl | rfl : q = 0 ∨ q = 1 := by omega
        · rw [hp]; simp [World.cell?, hb]
        · rw [hp]; simp [World.cell?, hb]
      have HP : Hid (p = decide (q = 1)) := hp
      clear hp
      have hqd : decide ((q : Int) < 2) = true := by simp; omega
      go_wp2
      go_loopw [5, 21] (fun v i wr => ∃ (k : Nat) (cur : List Int) (ls : List (List Int)) (v1 : Value), v1 = v ∧ k ≤ to.length ∧ i = .int .i64 k ∧ TI w wr vl gl gb line to cur ls v ∧ (q = 1 → ∀ (j : Nat) (x y : Int), cur[j]? = some x → to[j]? = some y → okp false x y) ∧ (∀ (j : Nat) (x y : Int), j < k → cur[j]? = some x → to[j]? = some y → okp p x y)) (fun _ i _ => to.length - (intOf i).toNat)
      case atStart => exact ⟨0, cur0, ls0, v0, rfl, Nat.zero_le _, rfl, HT0.out, fun h => HK1.out (by omega), fun j x y h => absurd h (by omega)⟩
      case round =>
        obtain ⟨k, cur, ls, v1, hv1, hk, rfl, hTI, hok1, hok2⟩ := hrel
        subst hv1
        have HTI : Hid (TI w wr vl gl gb line to cur ls v1) := hTI
        have HO1 : Hid (q = 1 → ∀ (j : Nat) (x y : Int), cur[j]? = some x → to[j]? = some y → okp false x y) := hok1
        have HO2 : Hid (∀ (j : Nat) (x y : Int), j < k → cur[j]? = some x → to[j]? = some y → okp p x y) := hok2
        clear hTI hok1 hok2
        by_cases hkt : k < to.length
        · obtain ⟨x, hx⟩ : ∃ x, cur[k]? = some x := ⟨_, List.getElem?_eq_getElem (by have := HTI.out.len; have := HLEN.out; omega)⟩
          obtain ⟨y, hy⟩ : ∃ y, to[k]? = some y := ⟨_, List.getElem?_eq_getElem hkt⟩
          have HX : Hid (cur[k]? = some x) := hx
          have HY : Hid (to[k]? = some y) := hy
          clear hx hy
          obtain ⟨capl, hvl, hgw, hcl, hfl⟩ := HTI.out.lat.at HX.out
          obtain ⟨capt2, hvt, _, hct, _⟩ := (HT.out.but HTI.out.but hne).at HY.out
          simp only [Value.slice.injEq] at hvt
          obtain ⟨rfl, _, rfl⟩ := hvt
          obtain ⟨n, hn⟩ : ∃ n, n = cur.length := ⟨_, rfl⟩
          rw [← hn] at hvl
          have hkn : k < n := by rw [hn]; exact (List.getElem?_eq_some_iff.1 HX.out).1
          clear hn
          subst hvl
          have hkn' : (k : Int) < (n : Int) := by omega
          by_cases hxy : x = y
          · have hxb : (x != y) = false := by simp [hxy]
            have HN : Hid (∀ (j : Nat) (x y : Int), j < k + 1 → cur[j]? = some x → to[j]? = some y → okp p x y) := fun j a b hj h1 h2 => by
              by_cases e : j = k
              · subst e
                rw [HX.out] at h1; rw [HY.out] at h2
                obtain rfl := Option.some.inj h1; obtain rfl := Option.some.inj h2
                exact .inl hxy
              · exact HO2.out j a b (by omega) h1 h2
            clear hxy
            go_wp2
            go_roundw
            case rel => exact ⟨k + 1, cur, ls, _, rfl, by omega, by go_num, HTI.out, HO1.out, HN.out⟩
            case measure => simp [intOf]; omega
          · have hxb : (x != y) = true := by simpa using hxy
            by_cases hpp : (x == -1) = p
            · have hpb : ((x == -1) == p) = true := by rw [hpp]; simp
              have hgl : gl < w.heap.size := by
                have hkl : k < line.length := by have := HLEN.out; omega
                obtain ⟨_, _, h, _⟩ := HL.out.at (List.getElem?_eq_getElem hkl)
                exact h
              obtain ⟨W5, hW5⟩ : ∃ W5, W5 = wr.setCell ⟨gl, k, none⟩ (.int .i32 y) := ⟨_, rfl⟩
              have HW5 : Hid (W5 = wr.setCell ⟨gl, k, none⟩ (.int .i32 y)) := hW5
              have hsz5 : Hid (W5.heap.size = wr.heap.size) := by unfold Hid; rw [hW5]; simp [World.setCell]
              have hbW : Below w0.heap.size w0 W5 := by
                rw [hW5]
                exact (hb0.trans (HTI.out.but.below hgl0 hb0.size)).setCell hgl0 _
              have HTB : Hid (Tabs W5) := ht0.below hbW
              have HL5 : Hid (LAt W5 (.slice (some ⟨gl, 0, none⟩) n capl) gl (cur.set k y)) := by
                rw [hW5]
                exact HTI.out.lat.set (List.getElem?_eq_some_iff.1 HX.out).1 y
              have HS2 : Hid (∀ w2, Below W5.heap.size W5 w2 → SMade w.heap.size w2 v1 (ls.map textS)) := fun w2 hb => by
                refine HTI.out.str.same fun g hg => ?_
                have hgb := HTI.out.str.block hg
                rw [hb.block g (by rw [hsz5.out]; exact hgb.2.1), hW5, Below.heap_setCell _ _ _ _ (by show g ≠ gl; omega)]
              have hcl5 : Hid ((cur.set k y).length ≤ 1000000) := by unfold Hid; rw [List.length_set, HTI.out.len]; have := HLEN.out; omega
              have hls : Hid ((ls.map textS).length ≤ 200000) := by unfold Hid; rw [List.length_map]; have := HTI.out.small; have := HLEN.out; omega
              have HST : Hid (∀ w2 w3 v', Below W5.heap.size W5 w2 → w3.ownsRow w.heap.size 9 1 v' ((ls.map textS).length + 1) ((ls.map textS).map Value.string ++ [.string (textS (un (cur.set k y)))]) → (w2.alloc (.cells #[.string (textS (un (cur.set k y)))] 9)).grownBy w3 v1.ownBlock → TI w w3 (.slice (some ⟨gl, 0, none⟩) n capl) gl gb line to (cur.set k y) (ls ++ [un (cur.set k y)]) v') := fun w2 w3 v' hb2 ho hg =>
                HTI.out.step hgl hgbw HX.out HY.out hxy (HOT.out y (List.mem_of_getElem? HY.out)) (by rw [hsz5.out, hW5] at hb2; exact hb2) ho hg
              have hszW := HTI.out.but.size
              clear hbW hW5
              have HXY : Hid (x ≠ y) := hxy
              clear hxy hpp
              go_upto_region 10 with (fail)
              rw [← HW5.out]
              go_wp2_with (first
                | (go_at_call 32; refine (esaid_any _ gl (cur.set k y) _ HTB.out HL5.out hcl5.out).mono ?_; rintro e w2 ⟨rfl, hb2⟩)
                | (at_builtin; refine wpList_append_own _ rfl _ _ 34 rfl w.heap.size 9 i0 (.string ByteArray.empty) 1 16 Tryd.underlying34 hi hz0 hz1 hz2 rfl (by decide) _ _ _ rfl (World.ownsRow.alloc (HS2.out w2 hb2) _) ⟨w2.heap.size, 0, none⟩ 1 1 [.string (textS (un (cur.set k y)))] rfl rfl ?c1 ?c2 ?c3 ?c4 ?c5 ?_))
              case c1 =>
                intro j u hj
                match j, hj with
                | 0, hj => simp at hj; subst hj; exact new_cell w2 _ _
              case c2 => intro u hu; simp at hu; subst hu; rfl
              case c3 => unfold maxLen; have := hls.out; omega
              case c4 => have := hls.out; omega
              case c5 => have := hb2.size; have := hsz5.out; simp; omega
              intro v' w3 hown' hgrow _
              have HTI3 : Hid (TI w w3 (.slice (some ⟨gl, 0, none⟩) n capl) gl gb line to (cur.set k y) (ls ++ [un (cur.set k y)]) v') := HST.out w2 w3 v' hb2 (by simpa using hown') hgrow
              clear hown' hgrow
              go_wp2
              go_roundw
              case rel =>
                refine ⟨k + 1, cur.set k y, _, _, rfl, by omega, by go_num, HTI3.out, fun h j a b h1 h2 => ?_, fun j a b hj h1 h2 => ?_⟩
                · rw [List.getElem?_set] at h1
                  by_cases e : k = j
                  · subst e
                    rw [if_pos rfl, if_pos (List.getElem?_eq_some_iff.1 HX.out).1] at h1
                    rw [HY.out] at h2
                    obtain rfl := Option.some.inj h1; obtain rfl := Option.some.inj h2
                    exact .inl rfl
                  · rw [if_neg e] at h1
                    exact HO1.out h j a b h1 h2
                · rw [List.getElem?_set] at h1
                  by_cases e : k = j
                  · subst e
                    rw [if_pos rfl, if_pos (List.getElem?_eq_some_iff.1 HX.out).1] at h1
                    rw [HY.out] at h2
                    obtain rfl := Option.some.inj h1; obtain rfl := Option.some.inj h2
                    exact .inl rfl
                  · rw [if_neg e] at h1
                    exact HO2.out j a b (by omega) h1 h2
              case measure => simp [intOf]; omega
            · have hpb : ((x == -1) == p) = false := by simpa using hpp
              have HN : Hid (∀ (j : Nat) (x y : Int), j < k + 1 → cur[j]? = some x → to[j]? = some y → okp p x y) := fun j a b hj h1 h2 => by
                by_cases e : j = k
                · subst e
                  rw [HX.out] at h1; rw [HY.out] at h2
                  obtain rfl := Option.some.inj h1; obtain rfl := Option.some.inj h2
                  cases p with
                  | false =>
                    have : (x == -1) = true := by simpa using hpp
                    exact .inr ⟨rfl, by simpa using this⟩
                  | true =>
                    have h3 : q = 1 := by have := HP.out; simpa using this
                    rcases HO1.out h3 j x y HX.out HY.out with e | ⟨_, e⟩
                    · exact absurd e hxy
                    · rw [e] at hpp; exact absurd rfl hpp
                · exact HO2.out j a b (by omega) h1 h2
              clear hxy hpp
              go_wp2
              go_roundw
              case rel => exact ⟨k + 1, cur, ls, _, rfl, by omega, by go_num, HTI.out, HO1.out, HN.out⟩
              case measure => simp [intOf]; omega
        · obtain rfl : k = to.length := by omega
          go_wp2
          go_roundw
          case rel =>
            refine ⟨q + 1, cur, ls, _, rfl, by omega, by go_num, HTI.out, fun _ j x y h1 h2 => ?_, fun h j x y h1 h2 => ?_⟩
            · rcases HO2.out j x y (List.getElem?_eq_some_iff.1 h2).1 h1 h2 with e | ⟨_, e⟩
              · exact .inl e
              · exact .inr ⟨rfl, e⟩
            · rcases HO2.out j x y (List.getElem?_eq_some_iff.1 h2).1 h1 h2 with e | ⟨e, _⟩
              · exact e
              · have := HP.out; rw [e] at this; simp at this; omega
          case measure => simp [intOf]; omega
    · obtain rfl : q = 2 := by omega
      go_wp2
      go_ret
      have h := HT0.out
      obtain ⟨hd, he⟩ := dif_zero cur0 to (by rw [h.len]; exact HLEN.out) (fun k hk => by
        have h2 := HK2.out (Nat.le_refl _) k cur0[k] (to[k]'(by have := h.len; have := HLEN.out; omega)) (List.getElem?_eq_getElem hk) (List.getElem?_eq_getElem _)
        rw [List.getElem?_eq_getElem hk, List.getElem?_eq_getElem (by have := h.len; have := HLEN.out; omega), h2])
      refine ⟨_, ls0, rfl, h.str, by rw [← he]; exact h.way, ?_, h.okl, h.but⟩
      have := h.cnt
      omega
end Go.Proofs.YtjfbildaaobfpaaDoor
