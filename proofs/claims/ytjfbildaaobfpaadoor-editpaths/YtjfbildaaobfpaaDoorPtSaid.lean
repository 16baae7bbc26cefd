/- edit.said: the writing of a line without its holes; slices.Reverse at runes. -/
import Derived.Test.YtjfbildaaobfpaaDoorEdOnce
import Derived.Test.YtjfbildaaobfpaaDoorWhole
import Derived.Shelf.Lay
import Derived.Shelf.SlicesE.Clone
import Derived.Shelf.SlicesE.Reverse
import Derived.Shelf.SlicesE.DeleteFunc
import Derived.Ground.SlgnProg
import Derived.Ground.SlgfProg
namespace Go.Proofs.YtjfbildaaobfpaaDoor
open Go.RowKit Go.Shelf Nums Ed
set_option maxRecDepth 1000000
shelf_lay_g SlLaysE0.n41 Slgn 41 at Tryd 38 as cloRu
shelf_lay_g SlLaysE.n35 Slgn 35 at Tryd 34 as revRu
shelf_lay_g SlLaysH.n10 Slgf 10 at Tryd 37 as delRu

abbrev encN : Int → Value := Value.int .i32
/-- A line that may be written into: it lies in block g. -/
def LAt (w : World) (v : Value) (g : Nat) (l : List Int) : Prop :=
  (v = .slice none 0 0 ∧ l = []) ∨ ∃ cap, v = .slice (some ⟨g, 0, none⟩) l.length cap ∧ l.length ≤ cap ∧ g < w.heap.size ∧ Sort.Holds encN w g 0 l.toArray
theorem holds_get {w : World} {g : Nat} {l : List Int} (h : Sort.Holds encN w g 0 l.toArray) {k : Nat} {x : Int} (hk : l[k]? = some x) : w.cell? ⟨g, k, none⟩ = some (.int .i32 x) ∧ w.frozen? ⟨g, k, none⟩ = false := by
  have hk' := (List.getElem?_eq_some_iff.1 hk)
  obtain ⟨h1, h2⟩ := hk'
  have := h k (by simpa using h1)
  rw [Nat.zero_add] at this
  rw [show (l.toArray)[k]! = x by rw [getElem!_pos _ k (by simpa using h1)]; simpa using h2] at this
  exact this
theorem holds_mk {w : World} {g : Nat} {l : List Int} (h : ∀ k x, l[k]? = some x → w.cell? ⟨g, k, none⟩ = some (.int .i32 x) ∧ w.frozen? ⟨g, k, none⟩ = false) : Sort.Holds encN w g 0 l.toArray := by
  intro j hj
  have hj' : j < l.length := by simpa using hj
  have := h j l[j] (List.getElem?_eq_getElem hj')
  rw [Nat.zero_add, show (l.toArray)[j]! = l[j] by rw [getElem!_pos _ j (by simpa using hj')]; simp]
  exact this
theorem LAt.same {w w' : World} {v : Value} {g : Nat} {l : List Int} (h : LAt w v g l) (hs : w.heap.size ≤ w'.heap.size) (e : g < w.heap.size → w'.heap[g]? = w.heap[g]?) : LAt w' v g l := by
  rcases h with h | ⟨cap, h1, h2, h3, h4⟩
  · exact .inl h
  · refine .inr ⟨cap, h1, h2, by omega, holds_mk fun k x hk => ?_⟩
    have := holds_get h4 hk
    exact ⟨(World.cell?_of_block (a := ⟨g, k, none⟩) (e h3)).trans this.1, (World.frozen?_of_block (a := ⟨g, k, none⟩) (e h3)).trans this.2⟩
theorem LAt.but {w w' : World} {v : Value} {g r : Nat} {l : List Int} (h : LAt w v g l) (hb : But r w w') (hr : g ≠ r) : LAt w' v g l := h.same hb.size fun hg => hb.block g hg hr
theorem LAt.below {w w' : World} {v : Value} {g : Nat} {l : List Int} (h : LAt w v g l) (hb : Below w.heap.size w w') : LAt w' v g l := h.same hb.size fun hg => hb.block g hg
theorem LAt.set {w : World} {v : Value} {g : Nat} {l : List Int} (h : LAt w v g l) {k : Nat} (hk : k < l.length) (x : Int) : LAt (w.setCell ⟨g, k, none⟩ (.int .i32 x)) v g (l.set k x) := by
  rcases h with ⟨_, rfl⟩ | ⟨cap, h1, h2, h3, h4⟩
  · simp at hk
  · refine .inr ⟨cap, by rw [List.length_set]; exact h1, by rw [List.length_set]; exact h2, by simpa [World.setCell] using h3, holds_mk fun j y hj => ?_⟩
    rw [List.getElem?_set] at hj
    rw [World.frozen?_setCell]
    by_cases e : k = j
    · subst e
      rw [if_pos rfl, if_pos hk] at hj
      obtain rfl := Option.some.inj hj
      have h5 := holds_get h4 (List.getElem?_eq_getElem hk)
      exact ⟨World.cell?_setCell_same _ _ _ h5.1, h5.2⟩
    · rw [if_neg e] at hj
      have h5 := holds_get h4 hj
      exact ⟨by rw [World.cell?_setCell_other _ _ _ _ (fun e2 => e (congrArg Addr.off e2))]; exact h5.1, h5.2⟩
theorem LAt.runes {w : World} {v : Value} {g : Nat} {l : List Int} (h : LAt w v g l) : RunesAt w.heap.size w v l := by
  rcases h with ⟨rfl, rfl⟩ | ⟨cap, h1, h2, h3, h4⟩
  · exact ⟨none, 0, rfl, fun h => by simp at h⟩
  · exact ⟨_, cap, h1, fun _ => ⟨g, 0, rfl, h3, fun i x hi => by rw [Nat.zero_add]; exact (holds_get h4 hi).1⟩⟩
theorem LAt.at {w : World} {v : Value} {g : Nat} {l : List Int} (h : LAt w v g l) {k : Nat} {x : Int} (hk : l[k]? = some x) : ∃ cap, v = .slice (some ⟨g, 0, none⟩) l.length cap ∧ g < w.heap.size ∧ w.cell? ⟨g, k, none⟩ = some (.int .i32 x) ∧ w.frozen? ⟨g, k, none⟩ = false := by
  rcases h with ⟨_, rfl⟩ | ⟨cap, h1, h2, h3, h4⟩
  · simp at hk
  · exact ⟨cap, h1, h3, holds_get h4 hk⟩
theorem Made.line {B : Nat} {w : World} {v : Value} {xs : List Int} (h : Made B w v xs) : ∃ g, B ≤ g ∧ LAt w v g xs ∧ (v = .slice none 0 0 ∨ v.ownBlock = some g) := by
  obtain ⟨hl, hn | ⟨g, cap, cur, rfl, hb, hg, h1, h2, h3, h4⟩⟩ := h
  · obtain ⟨rfl, h0⟩ := hn
    exact ⟨B, Nat.le_refl _, .inl ⟨rfl, List.length_eq_zero_iff.1 h0⟩, .inl rfl⟩
  · refine ⟨g, hb, .inr ⟨cap, rfl, h1, (Array.getElem?_eq_some_iff.1 hg).1, holds_mk fun i x hi => ?_⟩, .inr rfl⟩
    have hi' := (List.getElem?_eq_some_iff.1 hi).1
    have hc : cur[i]? = some (.int .i32 x) := by
      have e : (cur.toList.take (xs.length * 1))[i]? = (xs.map (Value.int .i32))[i]? := by rw [h4]
      rw [List.getElem?_take, if_pos (by omega)] at e
      rw [← Array.getElem?_toList, e, List.getElem?_map, hi]
      rfl
    refine ⟨?_, ?_⟩
    · simp only [World.cell?, hg]; simpa using hc
    · simp only [World.frozen?, hg]; simp
theorem but_putRow {w : World} {g q : Nat} (d : Array Int) : But g w (Sort.putRow encN (Sort.ahead w q) g 0 d) :=
  ⟨rfl, rfl, rfl, by rw [Sort.size_putRow]; exact Nat.le_refl _, fun k _ hk => by
    show ((Sort.ahead w q).heap.modify g _)[k]? = _
    rw [Array.getElem?_modify, if_neg (fun e => hk e.symm)]
    rfl⟩

/-- slices.Reverse at a line. -/
theorem Reverse_any (v : Value) (g : Nat) (l : List Int) (w : World) (h : LAt w v g l) (hl : l.length ≤ 1000000) :
    Calls Tryd.prog 34 #[v] w fun e w' => e = .returned (.tuple #[]) ∧ LAt w' v g l.reverse ∧ But g w w' := by
  rcases h with ⟨rfl, rfl⟩ | ⟨cap, rfl, h2, h3, h4⟩
  · refine (AnyE.slices_Reverse_empty revRu none 0 w).mono ?_
    rintro e w' ⟨rfl, rfl⟩
    exact ⟨rfl, .inl ⟨rfl, rfl⟩, But.refl _ _⟩
  · refine (AnyE.slices_Reverse revRu encN (fun _ => rfl) g 0 cap l w h4 (by omega)).mono ?_
    rintro e w' ⟨rfl, n, rfl⟩
    refine ⟨rfl, .inr ⟨cap, by rw [List.length_reverse], by rw [List.length_reverse]; exact h2, by rw [Sort.size_putRow]; exact h3, ?_⟩, but_putRow _⟩
    exact Sort.holds_putRow encN (Sort.ahead w n) g 0 l.toArray _ h4 (by simp)

/-- A line without its holes. -/
def un (l : List Int) : List Int := l.filter fun x => !(x == -1)
theorem isHole_any (x : Int) (w : World) : Calls Tryd.prog 39 #[.int .i32 x] w fun e w' => e = .returned (.bool (x == -1)) ∧ w' = w := by
  go_enter Tryd.func39, Tryd.ntmps39
  go_wp2
  go_ret
  exact ⟨rfl, rfl⟩
theorem hole_gives (x : Int) (W : World) : FnGives Tryd.prog 39 #[] #[encN x] (.bool (x == -1)) W := by
  refine (isHole_any x W).mono ?_
  rintro e w' ⟨rfl, rfl⟩
  exact ⟨rfl, 0, rfl⟩
theorem infoR2 : ∀ w, (sizeOf 21).run Tryd.prog w = .ok 1 w := fun w => by
  obtain ⟨i0, hi, hz0, hz1, hz2⟩ := info_parts infoRune
  simp [sizeOf, typeInfo, hi, hz1]
theorem zeroR2 : ∀ w, (zeroValue 21).run Tryd.prog w = .ok (encN 0) w := fun w => by
  obtain ⟨i0, hi, hz0, hz1, hz2⟩ := info_parts infoRune
  simp [zeroValue, typeInfo, hi, hz0]
theorem Clone_any (v : Value) (g : Nat) (l : List Int) (w : World) (h : LAt w v g l) (hl : l.length ≤ 1000000) :
    Calls Tryd.prog 38 #[v] w fun e w' => ∃ v', e = .returned v' ∧ Made w.heap.size w' v' l ∧ Below w.heap.size w w' := by
  rcases h with ⟨rfl, rfl⟩ | ⟨cap, rfl, h2, h3, h4⟩
  · refine (AnyE.slices_Clone_nil cloRu 0 0 w).mono ?_
    rintro e w' ⟨rfl, rfl⟩
    exact ⟨_, rfl, World.ownsRow_nil _ _ _ _, Below.refl _ _⟩
  · obtain ⟨i0, hi, hz0, hz1, hz2⟩ := info_parts infoRune
    refine (AnyE.slices_Clone cloRu i0 (.int .i32 0) 1 4 hi hz0 hz1 hz2 rfl (by decide) infoR2 g 0 l.length cap (l.map (Value.int .i32)) w (by simp) (by unfold maxLen; omega) (by omega) (fun j u hj => ?_) (fun u hu => ?_)).mono ?_
    · rw [List.getElem?_map] at hj
      cases hx : l[j]? with
      | none => rw [hx] at hj; cases hj
      | some x => rw [hx] at hj; obtain rfl := Option.some.inj hj; rw [Nat.zero_add]; exact (holds_get h4 hx).1
    · obtain ⟨x, _, rfl⟩ := List.mem_map.1 hu; rfl
    · rintro e w' ⟨v', rfl, ho, _, hb⟩
      exact ⟨v', rfl, ho, hb⟩
set_option maxHeartbeats 1000000 in
theorem Delete_nil (w : World) : Calls Tryd.prog 37 #[.slice none 0 0, .func (.func 39) #[] #[]] w fun e w' => e = .returned (.slice none 0 0) ∧ w' = w := by
  have hI : Calls Tryd.prog 43 #[.slice none 0 0, .func (.func 39) #[] #[]] w fun e w' => e = .returned (.int .i64 (-1)) ∧ w' = w := by
    go_enter Tryd.func43, Tryd.ntmps43
    go_wp2
    refine wp_loop_rounds 1 ?_
    rw [rounds_succ]
    go_wp2
    go_ret
    exact ⟨rfl, rfl⟩
  go_enter Tryd.func37, Tryd.ntmps37
  go_wp2_with (go_at_call 43; refine hI.mono ?_; rintro e w' ⟨rfl, rfl⟩)
  go_ret
  exact ⟨rfl, rfl⟩
theorem Delete_any (B : Nat) (v : Value) (l : List Int) (w : World) (h : Made B w v l) (hB : B ≤ w.heap.size) (hl : l.length ≤ 1000000) :
    Calls Tryd.prog 37 #[v, .func (.func 39) #[] #[]] w fun e w' => ∃ v', e = .returned v' ∧ Row w' v' (un l) ∧ Below B w w' := by
  obtain ⟨g, hg, hL, _⟩ := h.line
  rcases hL with ⟨rfl, rfl⟩ | ⟨cap, rfl, h2, h3, h4⟩
  · refine (Delete_nil w).mono ?_
    rintro e w' ⟨rfl, rfl⟩
    exact ⟨_, rfl, ⟨none, 0, rfl, fun h => by simp [un] at h⟩, Below.refl _ _⟩
  · have hcon := AnyE.slices_DeleteFunc delRu encN (fun _ => rfl) (fun x => x == -1) 39 #[] (enters_of Tryd.func39 (by kernel_rfl) rfl) 0 zeroR2 g 0 cap l.toArray w (fun W x _ => hole_gives x W) (fun _ _ _ x _ => hole_gives x _) h4 (by simp; omega) (by simpa using h2)
    refine (show Calls Tryd.prog 37 #[.slice (some ⟨g, 0, none⟩) l.length cap, .func (.func 39) #[] #[]] w _ from hcon).mono ?_
    rintro e w' ⟨rfl, q, rfl⟩
    have hfl : (l.filter fun x => !(x == -1)).length ≤ l.length := List.length_filter_le _ _
    refine ⟨_, rfl, ⟨_, _, rfl, fun _ => ⟨g, 0, rfl, fun i hi => ?_⟩⟩, (but_putRow _).below hg hB⟩
    have := Sort.cell?_putRow encN (Sort.ahead w q) g 0 l.toArray ((l.filter fun x => !(x == -1)) ++ List.replicate (l.length - (l.filter fun x => !(x == -1)).length) 0).toArray h4 (by simp; omega) i (by unfold un at hi; simp; omega)
    refine Eq.trans this ?_
    unfold un at hi ⊢
    congr 2
    rw [getElem!_pos _ i (by simp; omega)]
    simp only [List.getElem_toArray]
    rw [List.getElem_append_left hi, List.getD_eq_getElem?_getD, List.getElem?_eq_getElem hi]
    rfl
/-- edit.said. -/
theorem esaid_any (v : Value) (g : Nat) (l : List Int) (w : World) (ht : Tabs w) (h : LAt w v g l) (hl : l.length ≤ 1000000) :
    Calls Tryd.prog 32 #[v] w fun e w' => e = .returned (.string (textS (un l))) ∧ Below w.heap.size w w' := by
  have hul : (un l).length ≤ l.length := List.length_filter_le _ _
  have HL : Hid (LAt w v g l) := h
  clear h
  go_enter Tryd.func32, Tryd.ntmps32
  go_wp2_with (first
    | (go_at_call 38; refine (Clone_any v g l _ HL.out hl).mono ?_; rintro e w1 ⟨v1, rfl, hm1, hb1⟩)
    | (go_at_call 37; refine (Delete_any w.heap.size v1 l _ hm1 hb1.size hl).mono ?_; rintro e w2 ⟨v2, rfl, hr2, hb2⟩)
    | (go_at_call 36; refine (Text_any v2 (un l) _ (ht.below (hb1.trans hb2)) hr2 (by omega)).mono ?_; rintro e w3 ⟨rfl, hb3⟩))
  go_ret
  exact ⟨rfl, (hb1.trans hb2).trans (hb3.mono (hb1.trans hb2).size)⟩
end Go.Proofs.YtjfbildaaobfpaaDoor
