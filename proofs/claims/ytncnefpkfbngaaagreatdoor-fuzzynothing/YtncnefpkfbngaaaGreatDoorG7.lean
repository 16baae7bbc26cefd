/- Texts that were written apart, joined. -/
import Derived.Test.YtncnefpkfbngaaaGreatDoorG2
import Derived.Test.YtncnefpkfbngaaaGreatDoorG0
import Derived.Test.YtncnefpkfbngaaaGreatDoorDrawn8
import Derived.Test.YtncnefpkfbngaaaGreatDoorJ6
import Derived.Test.YtncnefpkfbngaaaGreatDoorJ7
import Derived.Deep.QuietTactic
import Derived.BigQuiet
/- The law's own 'alive': it is true. -/
namespace Go.Proofs.YtncnefpkfbngaaaGreatDoor
open Go.RowKit Nums
set_option maxRecDepth 100000

/-- What is owned can be read. -/
theorem Made.row {B : Nat} {w : World} {v : Value} {xs : List Int} (h : Made B w v xs) : Row w v xs := by
 obtain ⟨hl, hn | ⟨g, cap, cur, rfl, hb, hg, h1, h2, h3, h4⟩⟩ := h
 · obtain ⟨rfl, h0⟩ := hn
   refine ⟨none, 0, by rw [h0], fun h => by omega⟩
 · refine ⟨_, _, rfl, fun _ => ⟨g, 0, rfl, fun i hi => ?_⟩⟩
   have hc : cur[i]? = some (.int .i32 (xs.getD i 0)) := by
    have e : (cur.toList.take (xs.length * 1))[i]? = (xs.map (Value.int .i32))[i]? := by rw [h4]
    rw [List.getElem?_take, if_pos (by omega)] at e
    rw [← Array.getElem?_toList, e, List.getElem?_map, List.getElem?_eq_getElem hi]
    simp [List.getD_eq_getElem?_getD, List.getElem?_eq_getElem hi]
   simp only [World.cell?, hg, Nat.zero_add]
   simpa using hc
/-- What could be read can be read still. -/
theorem Row.below {w w' : World} {v : Value} {xs : List Int} (h : Row w v xs) (hb : Below w.heap.size w w') : Row w' v xs := by
 obtain ⟨ao, cap, rfl, hc⟩ := h
 refine ⟨ao, cap, rfl, fun h0 => ?_⟩
 obtain ⟨b, off, rfl, hd⟩ := hc h0
 exact ⟨b, off, rfl, fun i hi => (hb.cell (p := ⟨b, off + i, none⟩) (lt_of_cell (hd i hi))).trans (hd i hi)⟩
end Go.Proofs.YtncnefpkfbngaaaGreatDoor

/- Cut: what the seat's translation lacks is left out. -/
/- The reference's SameState and Same. -/
namespace Go.Proofs.YtncnefpkfbngaaaGreatDoor
open Go.RowKit Nums Fm
set_option maxRecDepth 100000
theorem StRow.at {B : Nat} {w : World} {vs : Value} {b : List St} (h : StRow B w vs b) (h0 : 0 < b.length) : ∃ g cap, vs = .slice (some ⟨g, 0, none⟩) b.length cap ∧ g < w.heap.size ∧ ∀ (i : Nat) (s : St), b[i]? = some s → ∃ va, AOwn B w va s.arcs ∧ w.cell? ⟨g, i * 3, none⟩ = some (.bool s.final) ∧ w.cell? ⟨g, i * 3 + 1, none⟩ = some (.int .i64 s.out) ∧ w.cell? ⟨g, i * 3 + 2, none⟩ = some va := by
 obtain ⟨xss, h1, h2, h3⟩ := h
 obtain ⟨g, cap, rfl, hg, _, _, hc⟩ := h1.cell (by omega)
 refine ⟨g, cap, by rw [h2], hg, fun i s hi => ?_⟩
 obtain ⟨va, h4, h5⟩ := h3 i s hi
 exact ⟨va, h5, hc i 0 _ _ h4 rfl, hc i 1 _ _ h4 rfl, hc i 2 _ _ h4 rfl⟩
theorem StRow.shape {B : Nat} {w : World} {vs : Value} {b : List St} (h : StRow B w vs b) : ∃ ad cap, vs = .slice ad b.length cap := by
 obtain ⟨xss, h1, h2, _⟩ := h
 obtain ⟨ad, cap, h3, _⟩ := h1.shape
 exact ⟨ad, cap, by rw [h3, h2]⟩
theorem GOwn.small {T : TypeId} {k B : Nat} {w : World} {v : Value} {xss : List (List Value)} (h : GOwn T k B w v xss) : xss.length ≤ maxLen := by
 obtain ⟨_, hl, ⟨_, h0⟩ | ⟨g, cap, cur, _, _, _, h3, h4, _⟩⟩ := h
 · omega
 · omega

theorem take_alike {α : Type} {l m : List α} {k : Nat} {x y : α} (h : l.take k = m.take k) (hx : l[k]? = some x) (hy : m[k]? = some y) (e : x = y) : l.take (k + 1) = m.take (k + 1) := by
 obtain ⟨h1, e1⟩ := List.getElem?_eq_some_iff.1 hx
 obtain ⟨h2, e2⟩ := List.getElem?_eq_some_iff.1 hy
 rw [List.take_succ_eq_append_getElem h1, List.take_succ_eq_append_getElem h2, e1, e2, h, e]
/-- What Same looks at in a round. -/
structure SM (ba bb ga gb i : Nat) (va vb : Value) (s t : St) (ua ub : Value) (w : World) : Prop where
 a : w.cell? ⟨ba, 1, none⟩ = some va
 b : w.cell? ⟨bb, 1, none⟩ = some vb
 a0 : w.cell? ⟨ga, i * 3, none⟩ = some (.bool s.final)
 a1 : w.cell? ⟨ga, i * 3 + 1, none⟩ = some (.int .i64 s.out)
 a2 : w.cell? ⟨ga, i * 3 + 2, none⟩ = some ua
 b0 : w.cell? ⟨gb, i * 3, none⟩ = some (.bool t.final)
 b1 : w.cell? ⟨gb, i * 3 + 1, none⟩ = some (.int .i64 t.out)
 b2 : w.cell? ⟨gb, i * 3 + 2, none⟩ = some ub
theorem SM.facts {ba bb ga gb i : Nat} {va vb : Value} {s t : St} {ua ub : Value} {w : World} (h : SM ba bb ga gb i va vb s t ua ub w) : w.cell? ⟨ba, 1, none⟩ = some va ∧ w.cell? ⟨bb, 1, none⟩ = some vb ∧ w.cell? ⟨ga, i * 3, none⟩ = some (.bool s.final) ∧ w.cell? ⟨ga, i * 3 + 1, none⟩ = some (.int .i64 s.out) ∧ w.cell? ⟨ga, i * 3 + 2, none⟩ = some ua ∧ w.cell? ⟨gb, i * 3, none⟩ = some (.bool t.final) ∧ w.cell? ⟨gb, i * 3 + 1, none⟩ = some (.int .i64 t.out) ∧ w.cell? ⟨gb, i * 3 + 2, none⟩ = some ub := ⟨h.a, h.b, h.a0, h.a1, h.a2, h.b0, h.b1, h.b2⟩
theorem SM.below {ba bb ga gb i : Nat} {va vb : Value} {s t : St} {ua ub : Value} {w w' : World} (h : SM ba bb ga gb i va vb s t ua ub w) (hb : Below w.heap.size w w') : SM ba bb ga gb i va vb s t ua ub w' := by
 have k : ∀ {g o : Nat} {v : Value}, w.cell? ⟨g, o, none⟩ = some v → w'.cell? ⟨g, o, none⟩ = some v := fun {g o v} h => (hb.cell (p := ⟨g, o, none⟩) (lt_of_cell h)).trans h
 exact ⟨k h.a, k h.b, k h.a0, k h.a1, k h.a2, k h.b0, k h.b1, k h.b2⟩
theorem StRow.small {B : Nat} {w : World} {vs : Value} {b : List St} (h : StRow B w vs b) : b.length ≤ 9223372036854775807 := by
 obtain ⟨xss, h1, h2, _⟩ := h
 have := GOwn.small h1
 rw [h2] at this
 simp only [maxLen] at this
 omega
end Go.Proofs.YtncnefpkfbngaaaGreatDoor

/- FstLevel: the law's own walk. -/
namespace Go.Proofs.YtncnefpkfbngaaaGreatDoor
open Go.RowKit Nums Fm
set_option maxRecDepth 100000

/-- What is fixed behind Build. -/
structure Behind (w wm : World) (mb : Nat) (base : Int) (vs : Value) (b : List St) : Prop where
 bel : Below w.heap.size w wm
 row : StRow w.heap.size wm vs b
 mac : wm.heap[mb]? = some (.cells #[.int .i64 base, vs] 63)
theorem Behind.below {w wm wm' : World} {mb : Nat} {base : Int} {vs : Value} {b : List St} (h : Behind w wm mb base vs b) (hb : Below wm.heap.size wm wm') : Behind w wm' mb base vs b :=
 ⟨h.bel.trans (hb.mono h.bel.size), h.row.below hb, (hb.block mb (Array.getElem?_eq_some_iff.1 h.mac).1).trans h.mac⟩
theorem mach_small {l : List Pr} : (machOf l).2.length ≤ 102400 := by
 rw [machOf]
 split
 · rename_i h
   have hg := dict_good h.1 h.2
   have h1 := (stF_facts 25 [] (ents l) (ok_of_rise 25 _ hg.1 hg.2.1 hg.2.2)).2.1
   have h2 := bulk_le (dict_ok h.1).en.ln
   rw [ents_len] at h2
   have h3 := (dict_ok h.1).len
   simp only [List.length_nil] at h1
   show (stF 25 [] (ents l)).1.length ≤ 102400
   omega
 · simp
end Go.Proofs.YtncnefpkfbngaaaGreatDoor

/- The reference's rests in memory: Least, Level, Under. -/
namespace Go.Proofs.YtncnefpkfbngaaaGreatDoor
open Go.RowKit Nums Fm
set_option maxRecDepth 100000

/-- A slice has no more than there is room for. -/
def CapOk : Value → Prop
 | .slice _ n c => n ≤ c
 | _ => False
/-- A row of rests that is read; the runes lie in blocks below E. -/
def RR (E : Nat) (w : World) (v : Value) (S : List En) : Prop :=
 ∃ ad cap, v = .slice ad S.length cap ∧ (0 < S.length → ∃ g off, ad = some ⟨g, off, none⟩ ∧ g < w.heap.size ∧ ∀ i e, S[i]? = some e → ∃ u, EntAt E w g (off + i * 2) u e ∧ CapOk u)
theorem RR.below {E : Nat} {w w' : World} {v : Value} {S : List En} (h : RR E w v S) (hE : E ≤ w.heap.size) (hb : Below w.heap.size w w') : RR E w' v S := by
 obtain ⟨ad, cap, rfl, hc⟩ := h
 refine ⟨ad, cap, rfl, fun h0 => ?_⟩
 obtain ⟨g, off, rfl, hg, hx⟩ := hc h0
 refine ⟨g, off, rfl, Nat.lt_of_lt_of_le hg hb.size, fun i e hi => ?_⟩
 obtain ⟨u, ⟨c0, c1, hr⟩, hk⟩ := hx i e hi
 exact ⟨u, ⟨(hb.cell (p := ⟨g, off + i * 2, none⟩) hg).trans c0, (hb.cell (p := ⟨g, off + i * 2 + 1, none⟩) hg).trans c1, hr.below (hb.mono hE)⟩, hk⟩
theorem RR.form {E : Nat} {w : World} {v : Value} {S : List En} (h : RR E w v S) : ∃ ad cap, v = .slice ad S.length cap := by
 obtain ⟨ad, cap, e, _⟩ := h; exact ⟨ad, cap, e⟩
theorem RR.at {E : Nat} {w : World} {ad : Option Addr} {n cap : Nat} {S : List En} (h : RR E w (.slice ad n cap) S) (h0 : 0 < n) : ∃ g off, ad = some ⟨g, off, none⟩ ∧ g < w.heap.size ∧ ∀ i e, S[i]? = some e → ∃ u, EntAt E w g (off + i * 2) u e ∧ CapOk u := by
 obtain ⟨ad', cap', e, hc⟩ := h
 simp only [Value.slice.injEq] at e
 obtain ⟨rfl, h2, rfl⟩ := e
 exact hc (by omega)
theorem RR.nil (E : Nat) (w : World) : RR E w (.slice none 0 0) [] := ⟨none, 0, rfl, fun h => by simp at h⟩
/-- A row of rests that the call has made. -/
structure RMade (E B : Nat) (w : World) (v : Value) (S : List En) : Prop where
 ex : ∃ xss : List (List Value), GOwn 135 2 B w v xss ∧ xss.length = S.length ∧ ∀ (i : Nat) (e : En), S[i]? = some e → ∃ u, xss[i]? = some [u, .int .i64 e.2] ∧ RunesAt E w u e.1 ∧ CapOk u
theorem RMade.nil (E B : Nat) (w : World) : RMade E B w (.slice none 0 0) [] := ⟨[], GOwn.nil _ _ _ _, rfl, fun i e hi => by simp at hi⟩
theorem RMade.row {E B : Nat} {w : World} {v : Value} {S : List En} (h : RMade E B w v S) : RR E w v S := by
 obtain ⟨xss, ho, hl, hx⟩ := h
 by_cases h0 : 0 < xss.length
 · obtain ⟨g, cap, rfl, hg, _, _, hcell⟩ := ho.cell h0
   refine ⟨_, cap, by rw [hl], fun _ => ⟨g, 0, rfl, hg, fun i e hi => ?_⟩⟩
   obtain ⟨u, hu, hm, hk⟩ := hx i e hi
   exact ⟨u, ⟨by rw [Nat.zero_add]; exact hcell i 0 _ u hu rfl, by rw [Nat.zero_add]; exact hcell i 1 _ _ hu rfl, hm⟩, hk⟩
 · obtain ⟨ad, cap, rfl, _⟩ := ho.shape
   exact ⟨ad, cap, by rw [hl], fun h => absurd h (by omega)⟩
theorem RMade.below {E B : Nat} {w w' : World} {v : Value} {S : List En} (h : RMade E B w v S) (hE : E ≤ w.heap.size) (hb : Below w.heap.size w w') : RMade E B w' v S := by
 obtain ⟨xss, ho, hl, hx⟩ := h
 refine ⟨xss, ho.below hb, hl, fun i e hi => ?_⟩
 obtain ⟨u, h1, h2, h3⟩ := hx i e hi
 exact ⟨u, h1, h2.below (hb.mono hE), h3⟩
theorem rtyR : RTy 135 94 2 32 := ⟨by kernel_rfl, ⟨.agg #[.slice none 0 0, .int .i64 0], by kernel_rfl, rfl⟩, by decide, by decide⟩
/-- One rest more. -/
theorem RMade.push {E B : Nat} {w w' : World} {v' : Value} {S : List En} {e : En} {u : Value} {xss : List (List Value)} (hl : xss.length = S.length) (hx : ∀ (i : Nat) (e : En), S[i]? = some e → ∃ u, xss[i]? = some [u, .int .i64 e.2] ∧ RunesAt E w u e.1 ∧ CapOk u) (hb : Below E w w') (ho : GOwn 135 2 B w' v' (xss ++ [[u, .int .i64 e.2]])) (hu : RunesAt E w u e.1) (hk : CapOk u) : RMade E B w' v' (S ++ [e]) := by
 refine ⟨_, ho, by simp [hl], fun i x hi => ?_⟩
 by_cases hil : i < S.length
 · rw [List.getElem?_append_left hil] at hi
   obtain ⟨y, h1, h2, h3⟩ := hx i x hi
   exact ⟨y, by rw [List.getElem?_append_left (by omega)]; exact h1, h2.below hb, h3⟩
 · rw [List.getElem?_append_right (by omega)] at hi
   cases hi0 : i - S.length with
   | zero =>
    rw [hi0] at hi
    simp only [List.getElem?_cons_zero, Option.some.injEq] at hi
    subst hi
    exact ⟨u, by rw [List.getElem?_append_right (by omega), hl, hi0]; rfl, hu.below hb, hk⟩
   | succ j => rw [hi0] at hi; simp at hi
set_option maxHeartbeats 1000000 in
theorem refLeast_any (E : Nat) (w : World) (v : Value) (l : List En) (h : RR E w v l) (h0 : 0 < l.length) (hl : l.length ≤ 1048576) :
 Calls Tryz.prog 50 #[v] w fun e w' => e = .returned (.int .i64 (least l)) ∧ w' = w := by
 obtain ⟨ad, cap, rfl⟩ := h.form
 obtain ⟨n, hn⟩ : ∃ n, l.length = n := ⟨_, rfl⟩
 have HN : Hid (l.length = n) := hn
 rw [hn] at h hl h0 ⊢
 have h0z : (0 : Int) < (n : Int) := by omega
 obtain ⟨g, off, rfl, hg, hx⟩ := h.at h0
 obtain ⟨e0, he0⟩ : ∃ e0, l[0]? = some e0 := ⟨l[0]'(by have := HN.out; omega), List.getElem?_eq_getElem _⟩
 obtain ⟨u0, hu0, _⟩ := hx 0 e0 he0
 obtain ⟨_, a1, _⟩ := hu0
 rw [Nat.zero_mul, Nat.add_zero] at a1
 have HL : Hid (least l = leastF e0.2 l) := by
  show _ = _
  cases l with
  | nil => simp at he0
  | cons x r => simp only [List.getElem?_cons_zero, Option.some.injEq] at he0; subst he0; rfl
 have HX : Hid (∀ (i : Nat) (e : En), l[i]? = some e → w.cell? ⟨g, off + i * 2 + 1, none⟩ = some (.int .i64 e.2)) := fun i e hi => by obtain ⟨u, hu, _⟩ := hx i e hi; exact hu.c1
 clear h hx he0 hn
 go_enter Tryz.func50, Tryz.ntmps50
 go_wp2
 go_loopg [3, 4] n (fun gm s3 s4 wr => ∃ (k : Nat), s4 = .int .i64 k ∧ k ≤ n ∧ n - k ≤ gm ∧ s3 = .int .i64 (leastF e0.2 (l.take k)) ∧ wr = w)
 case atStart => exact ⟨0, rfl, Nat.zero_le _, by omega, by simp [leastF], rfl⟩
 case round =>
  obtain ⟨k, rfl, hk, hgm, rfl, rfl⟩ := hrel
  by_cases hlt : k < n
  · have hltz : (k : Int) < (n : Int) := by omega
    obtain ⟨x, hx⟩ : ∃ x, l[k]? = some x := ⟨l[k]'(by have := HN.out; omega), List.getElem?_eq_getElem _⟩
    have c1 := HX.out k x hx
    have HS : Hid (leastF e0.2 (l.take (k + 1)) = if x.2 < leastF e0.2 (l.take k) then x.2 else leastF e0.2 (l.take k)) := leastF_snoc hx _
    clear hx
    generalize leastF e0.2 (l.take k) = m at *
    go_wp2
    all_goals
     go_roundg (n - (k + 1))
     case measure => omega
     case rel => exact ⟨k + 1, by go_num, by omega, Nat.le_refl _, by (first | (rw [HS.out, if_pos (by omega)]; done) | (rw [HS.out, if_neg (by omega)]; done) | (rw [HS.out]; simp only [Int.min_def]; split <;> split <;> first | rfl | (congr 1; omega))), rfl⟩
  · have hltz : ¬ (k : Int) < (n : Int) := by omega
    have HE : Hid (leastF e0.2 (l.take k) = leastF e0.2 l) := by show _ = _; rw [List.take_of_length_le (by have := HN.out; omega)]
    go_wp2
    go_ret
    exact ⟨by rw [HE.out, HL.out]; rfl, rfl⟩
/-- What a region looks at: one rest. -/
structure SE (g o : Nat) (u : Value) (n : Int) (w : World) : Prop where
 c0 : w.cell? ⟨g, o, none⟩ = some u
 c1 : w.cell? ⟨g, o + 1, none⟩ = some (.int .i64 n)
theorem SE.facts {g o : Nat} {u : Value} {n : Int} {w : World} (h : SE g o u n w) : w.cell? ⟨g, o, none⟩ = some u ∧ w.cell? ⟨g, o + 1, none⟩ = some (.int .i64 n) := ⟨h.c0, h.c1⟩
theorem SE.below {g o : Nat} {u : Value} {n : Int} {w w' : World} {B : Nat} (h : SE g o u n w) (hg : g < B) (hb : Below B w w') : SE g o u n w' := ⟨(hb.cell (p := ⟨g, o, none⟩) hg).trans h.c0, (hb.cell (p := ⟨g, o + 1, none⟩) hg).trans h.c1⟩
theorem shift_snoc (n : Int) {l : List En} {k : Nat} {e : En} (h : l[k]? = some e) : shift n (l.take (k + 1)) = shift n (l.take k) ++ [(e.1, e.2 + n)] := by
 rw [List.take_add_one, h]
 simp [shift]
set_option maxHeartbeats 2000000 in
theorem refLevel_any (E : Nat) (w : World) (v : Value) (l : List En) (h : RR E w v l) (h0 : 0 < l.length) (hl : l.length ≤ 1048576) (hE : E ≤ w.heap.size) (hw : ∀ e ∈ l, 0 ≤ e.2 ∧ e.2 ≤ 1048576) :
 Calls Tryz.prog 77 #[v] w fun e w' => ∃ v', e = .returned v' ∧ RMade E w.heap.size w' v' (level l) ∧ Below w.heap.size w w' := by
 obtain ⟨ad, cap, rfl⟩ := h.form
 obtain ⟨n, hn⟩ : ∃ n, l.length = n := ⟨_, rfl⟩
 have HN : Hid (l.length = n) := hn
 have HLE := refLeast_any E w _ l h h0 hl
 rw [hn] at h hl h0 HLE ⊢
 have hne : l ≠ [] := fun e => by rw [e] at hn; simp at hn; omega
 obtain ⟨base, hbase⟩ : ∃ base, least l = base := ⟨_, rfl⟩
 rw [hbase] at HLE
 have hbb : 0 ≤ base ∧ base ≤ 1048576 := by rw [← hbase]; exact least_le hne hw
 have HBASE : Hid (least l = base) := hbase
 have HLEH : Hid (Calls Tryz.prog 50 #[.slice ad n cap] w fun e w' => e = .returned (.int .i64 base) ∧ w' = w) := HLE
 obtain ⟨g, off, rfl, hg, hx⟩ := h.at h0
 have HX : Hid (∀ (i : Nat) (e : En), l[i]? = some e → ∃ u, EntAt E w g (off + i * 2) u e ∧ CapOk u) := hx
 have HW : Hid (∀ e ∈ l, 0 ≤ e.2 ∧ e.2 ≤ 1048576) := hw
 clear h hx hn HLE hw hne hbase
 go_enter Tryz.func77, Tryz.ntmps77
 go_upto_region 3 with (go_at_call 50; refine HLEH.out.mono ?_; rintro e w1 ⟨rfl, hw1⟩; rw [hw1]; clear hw1)
 go_wp2
 go_loopg [3, 5] n (fun gm s3 s5 wr => ∃ (k : Nat), s5 = .int .i64 k ∧ k ≤ n ∧ n - k ≤ gm ∧ Hid (RMade E w.heap.size wr s3 (shift (-base) (l.take k))) ∧ Hid (Below w.heap.size w wr))
 case atStart => exact ⟨0, rfl, Nat.zero_le _, by omega, RMade.nil _ _ _, Below.refl _ _⟩
 case round =>
  obtain ⟨k, rfl, hk, hgm, HM, HB⟩ := hrel
  by_cases hlt : k < n
  · have hltz : (k : Int) < (n : Int) := by omega
    obtain ⟨x, hxk⟩ : ∃ x, l[k]? = some x := ⟨l[k]'(by have := HN.out; omega), List.getElem?_eq_getElem _⟩
    obtain ⟨u, ⟨c0, c1, hr⟩, hck⟩ := HX.out k x hxk
    obtain ⟨ra, rc, hu, _⟩ := id hr
    obtain ⟨rn, hrn⟩ : ∃ rn, x.1.length = rn := ⟨_, rfl⟩
    rw [hrn] at hu
    subst hu
    obtain ⟨q, hq⟩ : ∃ q, x.2 = q := ⟨_, rfl⟩
    have hqb := HW.out x (List.mem_of_getElem? hxk)
    rw [hq] at c1 hqb
    have hS : SE g (off + k * 2) (.slice ra rn rc) q w := ⟨c0, c1⟩
    have hS0 : SE g (off + k * 2) (.slice ra rn rc) q wr.drew := (hS.below hg HB.out).below (B := wr.heap.size) (Nat.lt_of_lt_of_le hg HB.out.size) (Below.refl _ wr).drew
    have hwr : IntKind.i64.wrap (q - base) = q - base := by rw [IntKind.wrap_i64]; omega
    obtain ⟨xss, ho, hxl, hxe⟩ := HM.out.ex
    obtain ⟨W4, hW4⟩ : ∃ W4, W4 = wr.drew.alloc (.cells #[.slice ra rn rc, .int .i64 (q - base)] 135) := ⟨_, rfl⟩
    have hb4 : Below wr.heap.size wr W4 := by rw [hW4]; exact ((Below.refl _ wr).drew).alloc (by simp) _
    have hn4 : W4.heap[wr.heap.size]? = some (.cells #[.slice ra rn rc, .int .i64 (q - base)] 135) := by rw [hW4]; exact alloc_newP _ _
    have hBr : w.heap.size ≤ wr.heap.size := HB.out.size
    obtain ⟨v5, W5, hap, ho5, hgr, _⟩ := gappend_run rtyR (ho.below hb4) (Nat.le_trans hBr hb4.size) (x := [.slice ra rn rc, .int .i64 (q - base)]) ⟨rfl, by simp [Value.oneCell']⟩ (nb := wr.heap.size) (fun j u hj => by simp only [World.cell?, hn4]; simpa using hj) (by rw [hxl]; simp only [shift, List.length_map, List.length_take]; omega) 94 1
    have hB45 : Below w.heap.size W4 W5 := gBelow (ho.below hb4) hgr (Nat.le_trans hBr hb4.size)
    have hb5 : Below w.heap.size w W5 := (HB.out.trans (hb4.mono hBr)).trans hB45
    have hM5 : RMade E w.heap.size W5 v5 (shift (-base) (l.take (k + 1))) := by
     rw [shift_snoc (-base) hxk]
     refine RMade.push (w := wr) (u := .slice ra rn rc) (xss := xss) hxl hxe ((hb4.mono (Nat.le_trans hE hBr)).trans (hB45.mono hE)) ?_ (hr.below (HB.out.mono hE)) hck
     simp only [hq]
     exact ho5
    obtain ⟨sd, sc, hsv, _⟩ := ho.shape
    obtain ⟨vd, vc, hvv, _⟩ := ho5.shape
    obtain ⟨n3, hn3⟩ : ∃ n3, xss.length = n3 := ⟨_, rfl⟩
    obtain ⟨n5, hn5⟩ : ∃ n5, (xss ++ [[Value.slice ra rn rc, .int .i64 (q - base)]]).length = n5 := ⟨_, rfl⟩
    rw [hn3] at hsv
    rw [hn5] at hvv
    subst hsv
    subst hvv
    have hS4 : SE g (off + k * 2) (.slice ra rn rc) q W4 := (hS.below hg HB.out).below (Nat.lt_of_lt_of_le hg hBr) hb4
    have hS5 : SE g (off + k * 2) (.slice ra rn rc) q W5 := hS.below hg hb5
    have HM5 : Hid (RMade E w.heap.size W5 (.slice vd n5 vc) (shift (-base) (l.take (k + 1)))) := hM5
    have HB5 : Hid (Below w.heap.size w W5) := hb5
    have HAP : Hid ((Builtin.append_ #[94, 94] 94 #[.slice sd n3 sc, .slice (some ⟨wr.heap.size, 0, none⟩) 1 1]).run Tryz.prog W4 = .ok (.slice vd n5 vc) W5) := hap
    clear hxk hr hrn hq hS hck ho hxl hxe hb4 hn4 hap ho5 hgr hB45 hb5 hM5 hn3 hn5 c0 c1
    go_upto_region 6 with fail
    refine region_at (S := SE g (off + k * 2) (.slice ra rn rc) q) 17 rfl mixedP hS0 (fun _ => ?_)
    refine tk (i := 0) 14 rfl rfl (by kernel_rfl) (fun _ s => by (have h := SE.facts s; clear s; go_simp; first | done | exact rfl)) ?_
    simp only [sZa, sZb, sZc]
    refine tk (i := 1) 15 rfl rfl (by kernel_rfl) (fun _ s => by (have h := SE.facts s; clear s; go_simp; first | done | exact rfl)) ?_
    simp only [sZa, sZb, sZc]
    refine tk (i := 2) 16 rfl rfl (by kernel_rfl) (fun _ s => by (have h := SE.facts s; clear s; go_simp; first | done | exact rfl)) ?_
    simp only [sZa, sZb, sZc]
    refine tk (i := 3) 17 rfl rfl (by kernel_rfl) (fun _ s => by (have h := SE.facts s; clear s; go_simp; first | done | exact rfl)) ?_
    simp only [sZa, sZb, sZc]
    refine tk (i := 4) 18 rfl rfl (by kernel_rfl) (fun _ s => by (have h := SE.facts s; clear s; go_simp; first | done | exact rfl)) ?_
    simp only [sZa, sZb, sZc]
    refine tk (i := 5) 19 rfl rfl (by kernel_rfl) (fun _ s => by (have h := SE.facts s; clear s; go_simp; first | done | exact rfl)) ?_
    simp only [sZa, sZb, sZc]
    refine tk (i := 6) 20 rfl rfl (by kernel_rfl) (fun _ s => by (have h := SE.facts s; clear s; go_simp; first | done | exact rfl)) ?_
    simp only [sZa, sZb, sZc]
    refine tk (i := 7) 21 rfl rfl (by kernel_rfl) (fun _ s => by (have h := SE.facts s; clear s; go_simp; first | done | exact rfl)) ?_
    simp only [sZa, sZb, sZc]
    refine tk (i := 8) 22 rfl rfl (by kernel_rfl) (fun _ s => by (have h := SE.facts s; clear s; go_simp; first | done | exact rfl)) ?_
    simp only [sZa, sZb, sZc]
    refine tk (i := 9) 23 rfl rfl (by kernel_rfl) (fun _ s => by (have h := SE.facts s; clear s; go_simp; first | done | exact rfl)) ?_
    simp only [sZa, sZb, sZc]
    refine tk (i := 10) 24 rfl rfl (by kernel_rfl) (fun _ s => by (have h := SE.facts s; clear s; go_simp; first | done | exact rfl)) ?_
    simp only [sZa, sZb, sZc]
    refine tk (i := 11) 25 rfl rfl (by kernel_rfl) (fun _ s => by (have h := SE.facts s; clear s; go_simp; first | done | exact rfl)) ?_
    simp only [sZa, sZb, sZc]
    refine tk (i := 12) 26 rfl rfl (by kernel_rfl) (fun _ s => by (have h := SE.facts s; clear s; go_simp; first | done | exact rfl)) ?_
    simp only [sZa, sZb, sZc]
    refine tk (i := 13) 27 rfl rfl (by kernel_rfl) (fun _ s => by (have h := SE.facts s; clear s; go_simp; first | done | exact rfl)) ?_
    simp only [sZa, sZb, sZc]
    refine one_value (i := 14) (v := .slice (some ⟨wr.heap.size, 0, none⟩) 1 1) (w' := W4) 28 (by kernel_rfl) rfl rfl (by rfl) (by rw [hW4]; go_simp; first | done | exact rfl) hS4 (fun _ => ?_)
    simp only [sZa, sZb, sZc]
    refine one_value (i := 15) (v := .slice vd n5 vc) (w' := W5) 29 (by kernel_rfl) rfl rfl (by rfl) (exec_app HAP.out) hS5 (fun _ => ?_)
    simp only [sZa, sZb, sZc]
    refine one_value (i := 16) (v := .slice vd n5 vc) (w' := W5) 3 (by kernel_rfl) rfl rfl (by rfl) (by kernel_rfl) hS5 (fun _ => ?_)
    refine wpAnyH_done (by kernel_rfl) ?_ _
    simp only [sZa, sZb, sZc]
    clear hW4 hS4 hS5 hS0
    go_wp2
    go_roundg (n - (k + 1))
    case measure => omega
    case rel => exact ⟨k + 1, by go_num, by omega, Nat.le_refl _, HM5, HB5⟩
  · have hltz : ¬ (k : Int) < (n : Int) := by omega
    have HE : Hid (shift (-base) (l.take k) = level l) := by show _ = _; rw [List.take_of_length_le (by have := HN.out; omega), level, HBASE.out]
    go_wp2
    go_ret
    exact ⟨_, rfl, by have := HM.out; rwa [HE.out] at this, HB.out⟩
end Go.Proofs.YtncnefpkfbngaaaGreatDoor

/- The reference's Same: are two rows of runes the same? -/
namespace Go.Proofs.YtncnefpkfbngaaaGreatDoor
open Go.RowKit Nums
set_option maxRecDepth 100000

theorem same_of_all {xs ys : List Int} (hl : xs.length = ys.length) (h : ∀ j, j < xs.length → xs.getD j 0 = ys.getD j 0) : xs = ys := by
 refine List.ext_getElem hl (fun i h1 h2 => ?_)
 have := h i h1
 simpa [List.getD_eq_getElem?_getD, List.getElem?_eq_getElem h1, List.getElem?_eq_getElem h2] using this

set_option maxHeartbeats 2000000 in
theorem Same_any (va vb : Value) (xs ys : List Int) (w : World) (h1 : Row w va xs) (h2 : Row w vb ys) (hx : xs.length ≤ 9223372036854775807) (hy : ys.length ≤ 9223372036854775807) :
 Calls Tryz.prog 113 #[va, vb] w fun e w' => e = .returned (.bool (decide (xs = ys))) ∧ ∃ n, w' = w.drewN n := by
 obtain ⟨ao1, cap1, rfl, hc1⟩ := h1
 obtain ⟨ao2, cap2, rfl, hc2⟩ := h2
 by_cases hl : xs.length = ys.length
 · have hlb : ((xs.length : Int) != (ys.length : Int)) = false := by simp [hl]
   have HL : Hid (xs.length = ys.length) := hl
   have HC1 : Hid (0 < xs.length → ∃ b off, ao1 = some ⟨b, off, none⟩ ∧ ∀ i, i < xs.length → w.cell? ⟨b, off + i, none⟩ = some (.int .i32 (xs.getD i 0))) := hc1
   have HC2 : Hid (0 < ys.length → ∃ b off, ao2 = some ⟨b, off, none⟩ ∧ ∀ i, i < ys.length → w.cell? ⟨b, off + i, none⟩ = some (.int .i32 (ys.getD i 0))) := hc2
   clear hc1 hc2 hl
   go_enter Tryz.func113, Tryz.ntmps113
   go_wp2
   go_loopw [5] (fun i wr => ∃ k : Nat, k ≤ xs.length ∧ i = .int .i64 k ∧ (∀ j, j < k → xs.getD j 0 = ys.getD j 0) ∧ ∃ n, wr = w.drewN n) (fun i _ => xs.length - (intOf i).toNat)
   case atStart => exact ⟨0, Nat.zero_le _, rfl, fun j h => by omega, 0, rfl⟩
   case round =>
    obtain ⟨k, hk, rfl, hall, nw, rfl⟩ := hrel
    have HA : Hid (∀ j, j < k → xs.getD j 0 = ys.getD j 0) := hall
    clear hall
    by_cases hlt : k < xs.length
    · have hlt2 : k < ys.length := by have := HL.out; omega
      obtain ⟨g1, off1, rfl, hc1⟩ := HC1.out (by omega)
      obtain ⟨g2, off2, rfl, hc2⟩ := HC2.out (by omega)
      have hck1 := hc1 k hlt
      have hck2 := hc2 k hlt2
      clear hc1 hc2
      generalize hx' : xs.getD k 0 = x at *
      generalize hy' : ys.getD k 0 = y at *
      have HX : Hid (xs.getD k 0 = x) := hx'
      have HY : Hid (ys.getD k 0 = y) := hy'
      clear hx' hy'
      by_cases hxy : x = y
      · subst hxy
        have HB : Hid (∀ j, j < k + 1 → xs.getD j 0 = ys.getD j 0) := fun j h => by
         by_cases e : j = k
         · subst e; rw [HX.out, HY.out]
         · exact HA.out j (by omega)
        go_wp2
        go_quiet (fail)
        go_wp2
        go_roundw
        case rel => exact ⟨k + 1, by omega, by go_num, HB.out, _, rfl⟩
        case measure => simp [intOf]; omega
      · have hb : (x != y) = true := by simpa using hxy
        have HF : Hid (decide (xs = ys) = false) := decide_eq_false (fun e => hxy (by rw [← HX.out, ← HY.out, e]))
        clear hxy
        go_wp2
        go_quiet (fail)
        go_wp2
        go_ret
        exact ⟨by rw [HF.out]; rfl, _, by first | rfl | rw [World.drewN_drewN]⟩
    · have HF : Hid (decide (xs = ys) = true) := decide_eq_true (same_of_all HL.out (fun j hj => HA.out j (by omega)))
      go_wp2
      go_ret
      exact ⟨by rw [HF.out]; rfl, _, by first | rfl | rw [World.drewN_drewN]⟩
 · have hlb : ((xs.length : Int) != (ys.length : Int)) = true := by simpa using fun e => hl (by omega)
   have HF : Hid (decide (xs = ys) = false) := decide_eq_false (fun e => hl (by rw [e]))
   clear hc1 hc2 hl
   go_enter Tryz.func113, Tryz.ntmps113
   go_wp2
   go_ret
   exact ⟨by rw [HF.out]; rfl, 0, rfl⟩
end Go.Proofs.YtncnefpkfbngaaaGreatDoor
