/- fst.entries: words as runes. -/
import Derived.Test.YtllmdfkiogmofaaGreatDoorJ3
import Derived.Test.YtllmdfkiogmofaaGreatDoorFFault
namespace Go.Proofs.YtllmdfkiogmofaaGreatDoor
open Go.RowKit Nums Fm
set_option maxRecDepth 100000

def entOf (x : Pr) : En := ((rs x.1.data.toList).getD [], x.2)
def ents (l : List Pr) : List En := l.map entOf
theorem Made.runes {B : Nat} {w : World} {v : Value} {xs : List Int} (h : Made B w v xs) : RunesAt w.heap.size w v xs := by
  obtain ⟨hl, ⟨e, h0⟩ | ⟨g, cap, cur, rfl, h1, hh, h3, h4, h5, h6⟩⟩ := h
  · exact ⟨none, 0, by rw [e, h0], fun h => by omega⟩
  · refine ⟨_, cap, rfl, fun _ => ⟨g, 0, rfl, (Array.getElem?_eq_some_iff.1 hh).1, fun i x hi => ?_⟩⟩
    have e : (xs.map (Value.int .i32))[i]? = some (.int .i32 x) := by rw [List.getElem?_map, hi]; rfl
    rw [← h6, List.getElem?_take] at e
    split at e
    · simp only [World.cell?, hh, Nat.zero_add]
      simpa using e
    · cases e
/-- Runes lie in another block than structs of a type T. -/
theorem Made.kept {B : Nat} {w w' : World} {v u : Value} {xs : List Int} {T : TypeId} {k B' : Nat} {xss : List (List Value)} (h : Made B w v xs) (ho : GOwn T k B' w u xss) (hT : T ≠ 21) (hg : w.grownBy w' u.ownBlock) : Made B w' v xs := by
  refine World.ownsRow.kept h hg ?_
  by_cases e : v.ownBlock = none
  · exact .inl e
  · refine .inr fun e2 => ?_
    obtain ⟨g, hgv⟩ := Option.ne_none_iff_exists'.1 e
    obtain ⟨_, cur, h1⟩ := ho.block (e2.symm.trans hgv)
    obtain ⟨_, ⟨ev, _⟩ | ⟨g', cap, cur', rfl, _, h2, _⟩⟩ := h
    · rw [ev] at hgv; cases hgv
    · simp only [Value.ownBlock, Option.some.injEq] at hgv
      subst hgv
      rw [h1] at h2
      simp only [Option.some.injEq, Obj.cells.injEq] at h2
      exact hT h2.2.1
/-- Entries that are being made. -/
structure EntsAt (B : Nat) (w : World) (v : Value) (es : List En) : Prop where
  ex : ∃ xss : List (List Value), GOwn 128 2 B w v xss ∧ xss.length = es.length ∧ ∀ (i : Nat) (e : En), es[i]? = some e → ∃ u, xss[i]? = some [u, .int .i64 e.2] ∧ Made B w u e.1
theorem EntsAt.row {B : Nat} {w : World} {v : Value} {es : List En} (h : EntsAt B w v es) : ERow w.heap.size w v es := by
  obtain ⟨xss, ho, hl, hx⟩ := h
  by_cases h0 : 0 < xss.length
  · obtain ⟨g, cap, rfl, hg, _, hc, hcell⟩ := ho.cell h0
    refine ⟨_, cap, by rw [hl], by omega, fun _ => ⟨g, 0, rfl, hg, fun i e hi => ?_⟩⟩
    obtain ⟨u, hu, hm⟩ := hx i e hi
    exact ⟨u, by rw [Nat.zero_add]; exact hcell i 0 _ u hu rfl, by rw [Nat.zero_add]; exact hcell i 1 _ _ hu rfl, hm.runes⟩
  · obtain ⟨ad, cap, rfl, hc⟩ := ho.shape
    exact ⟨ad, cap, by rw [hl], by omega, fun h => absurd h (by omega)⟩
theorem Made.shape {B : Nat} {w : World} {v : Value} {xs : List Int} (h : Made B w v xs) : ∃ ad cap, v = .slice ad xs.length cap := by
  obtain ⟨hl, ⟨e, h0⟩ | ⟨g, cap, cur, rfl, _⟩⟩ := h
  · exact ⟨none, 0, by rw [e, h0]⟩
  · exact ⟨_, cap, rfl⟩
theorem ents_snoc {l : List Pr} {k : Nat} {x : Pr} (h : l[k]? = some x) : ents (l.take (k + 1)) = ents (l.take k) ++ [entOf x] := by
  rw [List.take_add_one, h]
  simp [ents]
theorem ents_len (l : List Pr) : (ents l).length = l.length := by simp [ents]
/-- Words as they can be. -/
def Wd (l : List Pr) : Prop := ∀ x ∈ l, ∃ xs, rs x.1.data.toList = some xs ∧ xs.length ≤ 24 ∧ x.1.size ≤ 96

set_option maxHeartbeats 1000000 in
theorem entries_any (w : World) (v : Value) (l : List Pr) (h : PRow w v l) (hl : l.length ≤ 4096) (hwd : Wd l) (ht : Tabs w) :
    Calls Tryz.prog 40 #[v] w fun e w' => ∃ v', e = .returned v' ∧ ERow w'.heap.size w' v' (ents l) ∧ Below w.heap.size w w' := by
  obtain ⟨ad, cap, rfl⟩ := h.form
  have HR : Hid (PRow w (.slice ad l.length cap) l) := h
  obtain ⟨n, hn⟩ : ∃ n, l.length = n := ⟨_, rfl⟩
  have HN : Hid (l.length = n) := hn
  have HS : Hid (Wd l) := hwd
  have HT : Hid (Tabs w) := ht
  rw [hn] at HR hl
  clear h hwd ht
  rw [hn]
  clear hn
  go_enter Tryz.func40, Tryz.ntmps40
  go_wp2
  go_loopg [3, 5, 6, 7, 10] n (fun g s3 _ _ _ s10 wr => ∃ (k : Nat), s10 = .int .i64 k ∧ k ≤ n ∧ n - k ≤ g ∧ Hid (Below w.heap.size w wr) ∧ Hid (EntsAt w.heap.size wr s3 (ents (l.take k))))
  case atStart => exact ⟨0, rfl, Nat.zero_le _, by omega, Below.refl _ _, ⟨[], GOwn.nil _ _ _ _, rfl, fun i e hi => by simp [ents] at hi⟩⟩
  case round =>
    obtain ⟨k, rfl, hk, hg, HB, HK⟩ := hrel
    by_cases hlt : k < n
    · have hltz : (k : Int) < (n : Int) := by omega
      obtain ⟨x, hx⟩ : ∃ x, l[k]? = some x := ⟨l[k]'(by have := HN.out; omega), List.getElem?_eq_getElem _⟩
      obtain ⟨b, off, rfl, hb, hcell⟩ := (HR.out.below HB.out).at (by omega)
      obtain ⟨c0, c1⟩ := hcell k x hx
      obtain ⟨xs, hxs, hx24, hx96⟩ := HS.out x (List.mem_of_getElem? hx)
      have HE : Hid (ents (l.take (k + 1)) = ents (l.take k) ++ [(xs, x.2)]) := by show _ = _; rw [ents_snoc hx, entOf, hxs]; rfl
      have HX : Hid (rs x.1.data.toList = some xs) := hxs
      have HRN : Hid (∀ W, Tabs W → Calls Tryz.prog 58 #[.string x.1] W fun e w' => ∃ v, Below W.heap.size W w' ∧ e = .returned (.tuple #[v, .bool true]) ∧ Made W.heap.size w' v xs) := fun W hW => by
        refine (Runes_any x.1 W hW (by omega) (room_of_runes hxs (by omega))).mono ?_
        rintro e w' ⟨v, hb, ⟨h1, _⟩ | ⟨ys, h1, h2, h3⟩⟩
        · rw [HX.out] at h1; cases h1
        · rw [HX.out] at h1; cases h1; exact ⟨v, hb, h2, h3⟩
      have HTA : Hid (∀ o, Tabs (wr.alloc o)) := fun o => (HT.out.below HB.out).below ((Below.refl _ wr).alloc (Nat.le_refl _) o)
      have HA : Hid (∀ o, Below wr.heap.size wr (wr.alloc o) ∧ (wr.alloc o).cell? ⟨b, off + k * 2, none⟩ = some (.string x.1)) := fun o => ⟨(Below.refl _ wr).alloc (Nat.le_refl _) o, (((Below.refl _ wr).alloc (Nat.le_refl _) o).cell (p := ⟨b, off + k * 2, none⟩) hb).trans c0⟩
      clear hcell hx hxs
      go_upto_region 5 with fail
      have hcA : (wr.alloc (.cells #[.string x.1, .int .i64 x.2] 47)).cell? ⟨wr.heap.size, 1, none⟩ = some (.int .i64 x.2) := by simp
      have hltA : wr.heap.size < (wr.alloc (.cells #[.string x.1, .int .i64 x.2] 47)).heap.size := by simp
      go_upto_region 6 with (go_at_call 58; refine (HRN.out _ (HTA.out _)).mono ?_; rintro e w2 ⟨v6, hb2, rfl, hm6⟩)
      obtain ⟨xss, ho, hxl, hxe⟩ := HK.out.ex
      have hb20 : Below wr.heap.size wr w2 := (HA.out _).1.trans (hb2.mono (HA.out _).1.size)
      have c21 : w2.cell? ⟨wr.heap.size, 1, none⟩ = some (.int .i64 x.2) := (hb2.cell (p := ⟨wr.heap.size, 1, none⟩) hltA).trans hcA
      have ho2 : GOwn 128 2 w.heap.size w2 u3 xss := ho.below hb20
      have hsz : w.heap.size ≤ wr.heap.size := HB.out.size
      have HO2 : Hid (GOwn 128 2 w.heap.size w2 u3 xss) := ho2
      have HM : Hid (∀ (i : Nat) (e : En), (ents (l.take k))[i]? = some e → ∃ u, xss[i]? = some [u, .int .i64 e.2] ∧ Made w.heap.size w2 u e.1) := fun i e hi => by
        obtain ⟨u, h1, h2⟩ := hxe i e hi
        exact ⟨u, h1, h2.below hb20⟩
      have HM6 : Hid (Made w.heap.size w2 v6 xs) := by
        obtain ⟨hl, hn | ⟨g, cap, cur, rfl, h1, h2⟩⟩ := hm6
        · exact ⟨hl, .inl hn⟩
        · exact ⟨hl, .inr ⟨g, cap, cur, rfl, by have := (HA.out (.cells #[.string x.1, .int .i64 x.2] 47)).1.size; omega, h2⟩⟩
      obtain ⟨ra, rc, rfl⟩ := hm6.shape
      have HB2 : Hid (Below w.heap.size w w2) := HB.out.trans (hb20.mono HB.out.size)
      have HL : Hid (xss.length = k) := by show _ = _; rw [hxl, ents_len, List.length_take]; have := HN.out; omega
      clear ho ho2 hxe hxl hm6 hcA hltA hb2 c0 c1
      go_wp2_with (at_builtin; refine append_g rtyE (by rfl) _ _ [.slice ra xs.length rc, .int .i64 x.2] _ rfl w.heap.size _ _ _ _ rfl HO2.out rfl rfl ⟨rfl, by simp [Value.oneCell']⟩ (by have := HL.out; omega) HB2.out.size ?_)
      intro v7 w7 ho7 hb7 hg7
      have HB7 : Hid (Below w.heap.size w w7) := HB2.out.trans hb7
      have HK7 : Hid (EntsAt w.heap.size w7 v7 (ents (l.take (k + 1)))) := by
        show EntsAt _ _ _ _
        have hA2 : Below w2.heap.size w2 (w2.alloc (.cells [.slice ra xs.length rc, .int .i64 x.2].toArray 128)) := (Below.refl _ w2).alloc (Nat.le_refl _) _
        have hk7 : ∀ {u : Value} {ys : List Int}, Made w.heap.size w2 u ys → Made w.heap.size w7 u ys := fun h => (h.below hA2).kept (HO2.out.below hA2) (by decide) hg7
        rw [HE.out]
        refine ⟨xss ++ [[.slice ra xs.length rc, .int .i64 x.2]], ho7, by simp [HL.out, ents_len]; have := HN.out; omega, fun i e hi => ?_⟩
        have hlen : (ents (l.take k)).length = xss.length := by rw [ents_len, HL.out, List.length_take]; have := HN.out; omega
        by_cases hik : i < xss.length
        · rw [List.getElem?_append_left (by omega)] at hi ⊢
          obtain ⟨u, h1, h2⟩ := HM.out i e hi
          exact ⟨u, h1, hk7 h2⟩
        · rw [List.getElem?_append_right (by omega)] at hi ⊢
          rw [hlen] at hi
          cases hi0 : i - xss.length with
          | zero =>
            rw [hi0] at hi
            simp only [List.getElem?_cons_zero, Option.some.injEq] at hi
            subst hi
            exact ⟨_, rfl, hk7 HM6.out⟩
          | succ m => rw [hi0] at hi; simp at hi
      clear ho7 hb7 hg7 HM HM6 HO2
      go_wp2_with fail
      go_roundg (n - (k + 1))
      case measure => omega
      case rel => exact ⟨k + 1, by go_num, by omega, Nat.le_refl _, HB7, HK7⟩
    · have hltz : ¬ (k : Int) < (n : Int) := by omega
      have HE : Hid (l.take k = l) := List.take_of_length_le (by have := HN.out; omega)
      go_wp2
      go_ret
      exact ⟨_, rfl, by have := HK.out.row; rwa [HE.out] at this, HB.out⟩
end Go.Proofs.YtllmdfkiogmofaaGreatDoor
