/- slices.Clone and slices.SortFunc at states. -/
import Derived.Shelf.Lay
import Derived.Shelf.SlicesE.Clone
import Derived.Shelf.SlSortCmp.WholeK
import Derived.Ground.SlgnProg
import Derived.Ground.SlsfProg
import Derived.Test.YtllmdfkiogmofaaGreatDoorJ11
namespace Go.Proofs.YtllmdfkiogmofaaGreatDoor
open Go.RowKit Go.Shelf Nums Fm Pk
set_option maxRecDepth 1000000
shelf_lay_g SlLaysE0.n41 Slgn 41 at Tryz 80 as cloneSt
shelf_lay_g SlLaysF0.n6 Slsf 6 at Tryz 81 as sortSt

/-- The cells of states, with their arcs. -/
structure StX (E : Nat) (w : World) (xss : List (List Value)) (m : List RSt) : Prop where
  len : xss.length = m.length
  all : ∀ (i : Nat) (s : RSt), m[i]? = some s → ∃ va, xss[i]? = some [.bool s.final, .int .i64 s.out, va] ∧ ArcsAt E w va s.arcs
  sml : ∀ s ∈ m, s.arcs.length ≤ 1114112
theorem StX.below {E : Nat} {w w' : World} {xss : List (List Value)} {m : List RSt} (h : StX E w xss m) (hb : Below E w w') : StX E w' xss m := ⟨h.len, fun i s hi => by obtain ⟨va, e1, e2⟩ := h.all i s hi; exact ⟨va, e1, e2.below hb⟩, h.sml⟩
theorem StX.cells {E : Nat} {w : World} {xss : List (List Value)} {m : List RSt} (h : StX E w xss m) : ∀ x ∈ xss, Cells 3 x := fun x hx => by
  obtain ⟨i, hi, rfl⟩ := List.getElem_of_mem hx
  obtain ⟨s, hs⟩ : ∃ s, m[i]? = some s := ⟨m[i]'(by have := h.len; omega), List.getElem?_eq_getElem _⟩
  obtain ⟨va, e1, e2⟩ := h.all i s hs
  obtain ⟨ad, cap, rfl⟩ := e2.shape
  rw [List.getElem?_eq_getElem hi] at e1
  rw [Option.some.inj e1]
  exact ⟨rfl, by simp [Value.oneCell']⟩
theorem flat_at : ∀ (xss : List (List Value)), (∀ x ∈ xss, x.length = 3) → ∀ (j : Nat) (u : Value), xss.flatten[j]? = some u → ∃ i c x, j = i * 3 + c ∧ xss[i]? = some x ∧ x[c]? = some u
  | [], _, j, u, h => by simp at h
  | y :: r, hk, j, u, h => by
    have hy := hk y (by simp)
    rw [List.flatten_cons] at h
    by_cases hj : j < 3
    · rw [List.getElem?_append_left (by omega)] at h
      exact ⟨0, j, y, by omega, rfl, h⟩
    · rw [List.getElem?_append_right (by omega), hy] at h
      obtain ⟨i, c, x, e, h1, h2⟩ := flat_at r (fun x hx => hk x (by simp [hx])) (j - 3) u h
      exact ⟨i + 1, c, x, by omega, by simpa using h1, h2⟩
theorem flat_len3 : ∀ (xss : List (List Value)), (∀ x ∈ xss, x.length = 3) → xss.flatten.length = xss.length * 3
  | [], _ => rfl
  | y :: r, hk => by
    rw [List.flatten_cons, List.length_append, flat_len3 r (fun x hx => hk x (by simp [hx])), hk y (by simp), List.length_cons]
    omega
theorem cloneS_any (E : Nat) (w : World) (xss : List (List Value)) (m : List RSt) (vs : Value) (h : GRow E 3 w vs xss) (hX : StX E w xss m) (h0 : m ≠ []) (hm : m.length ≤ 1048576) :
    Calls Tryz.prog 80 #[vs] w fun e w' => ∃ g cap, e = .returned (.slice (some ⟨g, 0, none⟩) m.length cap) ∧ GOwn 61 3 w.heap.size w' (.slice (some ⟨g, 0, none⟩) m.length cap) xss ∧ Below w.heap.size w w' := by
  obtain ⟨z, hz, hzs⟩ := rtyS.inf
  obtain ⟨i, hi, hz0, hz1, hz2⟩ := info_parts hz
  have hsz : ∀ w, (Go.sizeOf 61).run Tryz.prog w = .ok 3 w := fun w => by simp [sizeOf, typeInfo, hi, hz1, Result.andThen]
  have hcl := hX.cells
  have hl3 : ∀ x ∈ xss, x.length = 3 := fun x hx => (hcl x hx).1
  have hpos := List.length_pos_iff.2 h0
  have hlen := hX.len
  obtain ⟨ad, cap, rfl, hc⟩ := h.ex
  obtain ⟨g, off, rfl, hg, hx⟩ := hc (by omega)
  have hcell : ∀ (j : Nat) u, xss.flatten[j]? = some u → w.cell? ⟨g, off + j, none⟩ = some u := fun j u hj => by
    obtain ⟨i, c, x, rfl, h1, h2⟩ := flat_at xss hl3 j u hj
    have := hx i c x u h1 h2
    rwa [Nat.add_assoc] at this
  have hone : ∀ u ∈ xss.flatten, u.oneCell' = true := fun u hu => by
    obtain ⟨x, hx, hux⟩ := List.mem_flatten.1 hu
    exact (hcl x hx).2 u hux
  have hcall : Calls Tryz.prog 80 #[.slice (some ⟨g, off, none⟩) xss.length cap] w fun e w' => ∃ v', e = .returned v' ∧ w'.ownsRow w.heap.size 61 3 v' xss.length xss.flatten ∧ v' ≠ .slice none 0 0 ∧ Below w.heap.size w w' :=
    AnyE.slices_Clone cloneSt i z 3 40 hi hz0 hz1 hz2 hzs (by decide) hsz g off xss.length cap xss.flatten w (flat_len3 xss hl3) (by unfold maxLen; omega) (by omega) hcell hone
  refine hcall.mono ?_
  rintro e w' ⟨v', rfl, ho, hne, hb⟩
  have hO : GOwn 61 3 w.heap.size w' v' xss := ⟨hcl, ho⟩
  obtain ⟨g', cap', hv, _⟩ := hO.cell (by omega)
  subst hv
  rw [hlen] at hO ⊢
  exact ⟨g', cap', rfl, hO, hb⟩
def encS (xss : List (List Value)) (i : Nat) : List Value := xss.getD i [.bool false, .int .i64 0, .slice none 0 0]
theorem encS_get {E : Nat} {w : World} {xss : List (List Value)} {m : List RSt} (h : StX E w xss m) (i : Nat) : ∃ va, encS xss i = [.bool (m.getD i zS).final, .int .i64 (m.getD i zS).out, va] ∧ ArcsAt E w va (m.getD i zS).arcs ∧ (m.getD i zS).arcs.length ≤ 1114112 ∧ va.oneCell' = true := by
  cases hs : m[i]? with
  | none =>
    have hx : xss[i]? = none := List.getElem?_eq_none (by have := h.len; have := List.getElem?_eq_none_iff.1 hs; omega)
    rw [encS, List.getD_eq_getElem?_getD, hx, List.getD_eq_getElem?_getD, hs]
    exact ⟨_, rfl, ⟨⟨_, _, rfl, fun h => by simp [zS] at h⟩, fun a ha => by simp [zS] at ha, by simp [zS]⟩, by simp [zS], rfl⟩
  | some s =>
    obtain ⟨va, e1, e2⟩ := h.all i s hs
    rw [encS, List.getD_eq_getElem?_getD, e1, List.getD_eq_getElem?_getD, hs]
    obtain ⟨ad, cap, hv⟩ := e2.shape
    exact ⟨va, rfl, e2, h.sml s (List.mem_of_getElem? hs), by rw [hv]; rfl⟩
theorem sortFar {enc : Nat → List Value} {w : World} {blk off q : Nat} {d : Array Nat} {os : Array Obj} {k : Nat} (hk : k < w.heap.size) (hne : k ≠ blk) : (sortWorldK enc 3 w blk off q d os).heap[k]? = w.heap[k]? := by
  unfold sortWorldK Go.Sort.grow Go.Sort.putRowK Go.Sort.putRow Go.Sort.mapBlock
  simp only
  rw [Array.getElem?_append_left (by simpa [Go.Sort.ahead] using hk), Array.getElem?_modify, if_neg (fun e => hne e.symm)]
  rfl
theorem sortBelow {enc : Nat → List Value} {w : World} {blk off q : Nat} {d : Array Nat} {os : Array Obj} {B : Nat} (hB : B ≤ blk) (hBw : B ≤ w.heap.size) : Below B w (sortWorldK enc 3 w blk off q d os) := by
  refine ⟨rfl, rfl, rfl, ?_, fun k hk => sortFar (by omega) (by omega)⟩
  unfold sortWorldK Go.Sort.grow Go.Sort.putRowK Go.Sort.putRow Go.Sort.mapBlock
  simp [Go.Sort.ahead]
theorem sortS_any (E B : Nat) (w : World) (xss : List (List Value)) (m : List RSt) (g cap : Nat) (hO : GOwn 61 3 B w (.slice (some ⟨g, 0, none⟩) m.length cap) xss) (hX : StX E w xss m) (hEB : E ≤ B) (hBw : B ≤ w.heap.size) (h0 : m ≠ []) (hm : m.length ≤ 1048576) :
    Calls Tryz.prog 81 #[.slice (some ⟨g, 0, none⟩) m.length cap, .func (.func 82) #[] #[]] w fun e w' => e = .returned (.tuple #[]) ∧ ∃ d : Array Nat, d.size = m.length ∧ d.toList.Perm (List.range m.length) ∧ Go.Sort.SortedIn (ltOf (cfS m)) 0 m.length d ∧ Go.Sort.HoldsK (encS xss) 3 w' g 0 d ∧ Below B w w' := by
  have hlen := hX.len
  have hpos := List.length_pos_iff.2 h0
  have eg : ∀ args w, (callFunc 82 args).run Tryz.prog w = .ok (.enter 82 args) w := enters_of Tryz.func82 (by kernel_rfl) rfl
  have hk : ∀ x, (encS xss x).length = 3 := fun x => by obtain ⟨va, e, _⟩ := encS_get hX x; rw [e]; rfl
  have h1 : ∀ x, ∀ v ∈ encS xss x, v.oneCell' = true := fun x v hv => by
    obtain ⟨va, e, _, _, ho⟩ := encS_get hX x
    rw [e] at hv
    simp only [List.mem_cons, List.not_mem_nil, or_false] at hv
    rcases hv with rfl | rfl | rfl
    · rfl
    · rfl
    · exact ho
  obtain ⟨hg, cur, hblk⟩ := hO.block (g := g) rfl
  have hgw := (Array.getElem?_eq_some_iff.1 hblk).1
  have hH : Go.Sort.HoldsK (encS xss) 3 w g 0 (Array.range m.length) := by
    obtain ⟨g', cap', e, _, _, _, hc⟩ := hO.cell (by omega)
    simp only [Value.slice.injEq, Option.some.injEq, Addr.mk.injEq, and_true] at e
    have eg' : g = g' := e.1
    subst eg'
    intro t ht
    have ht2 : t < m.length * 3 := by simpa using ht
    obtain ⟨i, j, rfl, hj⟩ : ∃ i j, t = i * 3 + j ∧ j < 3 := ⟨t / 3, t % 3, by omega, by omega⟩
    have hi : i < m.length := by omega
    have hx : xss[i]? = some (xss[i]'(by omega)) := List.getElem?_eq_getElem _
    have hl := hk i
    have he : encS xss i = xss[i]'(by omega) := by rw [encS, List.getD_eq_getElem?_getD, hx]; rfl
    rw [he] at hl
    refine ⟨?_, by simp [World.frozen?, hblk]⟩
    rw [Go.Sort.get_flatK _ _ _ _ (by simpa using ht2), show (i * 3 + j) / 3 = i by omega, show (i * 3 + j) % 3 = j by omega]
    have el : (Array.range m.length)[i]! = i := by simp [hi]
    rw [el, he, Nat.zero_add]
    have hjl : j < (xss[i]'(by omega)).length := by omega
    rw [getElem!_pos _ j hjl]
    exact hc i j _ _ hx (List.getElem?_eq_getElem hjl)
  have hcmp : CmpLays Tryz.prog 82 #[] (encS xss) 3 (cfS m) g 0 (Array.range m.length).size w := fun q os dk _ x y => by
    obtain ⟨va, ea, ha, hla, _⟩ := encS_get hX x
    obtain ⟨vb, eb, hb, hlb, _⟩ := encS_get hX y
    have hbl : Below E w (sortWorldK (encS xss) 3 w g 0 q dk os) := sortBelow (by omega) (by omega)
    rw [ea, eb]
    refine (compareStates_any E _ _ va vb _ (ha.below hbl) (hb.below hbl) (Nat.le_trans (by omega) hbl.size) hla hlb).mono ?_
    rintro e w' ⟨rfl, hgr⟩
    exact ⟨rfl, hgr.grown⟩
  have hc := AnyQ.slices_SortFunc sortSt 3 Tryz.isAgg61 Tryz.sizeOf61 (encS xss) hk h1 (cfS m) (cfS_swo m) 82 #[] g 0 cap (Array.range m.length) w eg hcmp hH hgw (by simp; omega)
  rw [Array.size_range] at hc
  refine hc.mono ?_
  rintro e w' ⟨rfl, d, q, os, hp, hs, rfl⟩
  obtain ⟨hp1, _, hp3⟩ := hp
  have hds : d.size = m.length := by simpa using hp1
  have hsw : SWK (encS xss) 3 w g 0 d (sortWorldK (encS xss) 3 w g 0 q d os) := ⟨q, os, rfl⟩
  refine ⟨rfl, d, hds, ?_, hs, hsw.holds hgw hH (by simpa using hds), sortBelow hg hBw⟩
  have e1 : d.extract 0 m.length = d := by rw [← hds]; simp
  have e2 : (Array.range m.length).extract 0 m.length = Array.range m.length := by simp
  rw [e1, e2] at hp3
  simpa using hp3
end Go.Proofs.YtllmdfkiogmofaaGreatDoor
