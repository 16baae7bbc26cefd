/- Texts that were written apart, joined. -/
import Derived.Test.YthfngcpcccbnpaaDoorE3
import Derived.Test.YthfngcpcccbnpaaDoorG7
import Derived.Deep.QuietTactic
import Derived.BigQuiet
import Derived.Test.YthfngcpcccbnpaaDoorGh
import Derived.Shelf.Lay
import Derived.Shelf.SlicesE.Clone
import Derived.Shelf.SlicesE.Reverse
import Derived.Shelf.SlicesE.DeleteFunc
import Derived.Ground.SlgnProg
import Derived.Ground.SlgfProg
/- Ours, cut: what the seat's translation lacks is left out. -/
/- One edit: mathematics, and the reference's Once. -/
namespace Go.Proofs.YthfngcpcccbnpaaDoor
open Go.RowKit Nums Ed
set_option maxRecDepth 100000

namespace Ed
/-- How many numbers both begin with alike. -/
def cp : List Int → List Int → Nat
  | x :: xs, y :: ys => if x = y then cp xs ys + 1 else 0
  | _, _ => 0
end Ed
/-- Draws alone. -/
def Dn (w w' : World) : Prop := ∃ n, w' = w.drewN n
theorem Dn.trans {a b c : World} (h : Dn a b) (k : Dn b c) : Dn a c := by
  obtain ⟨n, rfl⟩ := h; obtain ⟨m, rfl⟩ := k
  exact ⟨_, by rw [World.drewN_drewN]⟩
theorem Dn.drew (w : World) : Dn w w.drew := ⟨1, rfl⟩
theorem Dn.heap {w w' : World} (h : Dn w w') : w'.heap = w.heap := by obtain ⟨n, rfl⟩ := h; rfl
theorem RunesAt.dn {E : Nat} {w w' : World} {v : Value} {xs : List Int} (h : RunesAt E w v xs) (hd : Dn w w') : RunesAt E w' v xs := by obtain ⟨n, rfl⟩ := hd; exact h

end Go.Proofs.YthfngcpcccbnpaaDoor

/- edit.said: the writing of a line without its holes; slices.Reverse at runes. -/
namespace Go.Proofs.YthfngcpcccbnpaaDoor
open Go.RowKit Go.Shelf Nums Ed
set_option maxRecDepth 1000000
shelf_lay_g SlLaysE0.n41 Slgn 41 at Tryd 83 as cloRu
shelf_lay_g SlLaysE.n35 Slgn 35 at Tryd 66 as revRu
shelf_lay_g SlLaysH.n10 Slgf 10 at Tryd 82 as delRu

abbrev encN : Int → Value := Value.int .i32
/-- A line that may be written into: it lies in block g. -/
def LAt (w : World) (v : Value) (g : Nat) (l : List Int) : Prop :=
  (v = .slice none 0 0 ∧ l = []) ∨ ∃ cap, v = .slice (some ⟨g, 0, none⟩) l.length cap ∧ l.length ≤ cap ∧ g < w.heap.size ∧ Sort.Holds encN w g 0 l.toArray
theorem holds_get {w : World} {g : Nat} {l : List Int} (h : Sort.Holds encN w g 0 l.toArray) {k : Nat} {x : Int} (hk : l[k]? = some x) : w.cell? ⟨g, k, none⟩ = some (.int .i32 x) ∧ w.frozen? ⟨g, k, none⟩ = false := by
  have hk' := (List.getElem?_eq_some_iff.1 hk)
  obtain ⟨h1, h2⟩ := hk'
  have := h k (by simpa using h1)
  rw [Nat.zero_add] at this
  rw [show (l.toArray)[k]! = x by rw [getElem!_pos _ k (by simpa using h1)]; simpa using h2] at this
  exact this
theorem holds_mk {w : World} {g : Nat} {l : List Int} (h : ∀ k x, l[k]? = some x → w.cell? ⟨g, k, none⟩ = some (.int .i32 x) ∧ w.frozen? ⟨g, k, none⟩ = false) : Sort.Holds encN w g 0 l.toArray := by
  intro j hj
  have hj' : j < l.length := by simpa using hj
  have := h j l[j] (List.getElem?_eq_getElem hj')
  rw [Nat.zero_add, show (l.toArray)[j]! = l[j] by rw [getElem!_pos _ j (by simpa using hj')]; simp]
  exact this
theorem LAt.same {w w' : World} {v : Value} {g : Nat} {l : List Int} (h : LAt w v g l) (hs : w.heap.size ≤ w'.heap.size) (e : g < w.heap.size → w'.heap[g]? = w.heap[g]?) : LAt w' v g l := by
  rcases h with h | ⟨cap, h1, h2, h3, h4⟩
  · exact .inl h
  · refine .inr ⟨cap, h1, h2, by omega, holds_mk fun k x hk => ?_⟩
    have := holds_get h4 hk
    exact ⟨(World.cell?_of_block (a := ⟨g, k, none⟩) (e h3)).trans this.1, (World.frozen?_of_block (a := ⟨g, k, none⟩) (e h3)).trans this.2⟩
theorem LAt.but {w w' : World} {v : Value} {g r : Nat} {l : List Int} (h : LAt w v g l) (hb : But r w w') (hr : g ≠ r) : LAt w' v g l := h.same hb.size fun hg => hb.block g hg hr
theorem LAt.below {w w' : World} {v : Value} {g : Nat} {l : List Int} (h : LAt w v g l) (hb : Below w.heap.size w w') : LAt w' v g l := h.same hb.size fun hg => hb.block g hg
theorem LAt.set {w : World} {v : Value} {g : Nat} {l : List Int} (h : LAt w v g l) {k : Nat} (hk : k < l.length) (x : Int) : LAt (w.setCell ⟨g, k, none⟩ (.int .i32 x)) v g (l.set k x) := by
  rcases h with ⟨_, rfl⟩ | ⟨cap, h1, h2, h3, h4⟩
  · simp at hk
  · refine .inr ⟨cap, by rw [List.length_set]; exact h1, by rw [List.length_set]; exact h2, by simpa [World.setCell] using h3, holds_mk fun j y hj => ?_⟩
    rw [List.getElem?_set] at hj
    rw [World.frozen?_setCell]
    by_cases e : k = j
    · subst e
      rw [if_pos rfl, if_pos hk] at hj
      obtain rfl := Option.some.inj hj
      have h5 := holds_get h4 (List.getElem?_eq_getElem hk)
      exact ⟨World.cell?_setCell_same _ _ _ h5.1, h5.2⟩
    · rw [if_neg e] at hj
      have h5 := holds_get h4 hj
      exact ⟨by rw [World.cell?_setCell_other _ _ _ _ (fun e2 => e (congrArg Addr.off e2))]; exact h5.1, h5.2⟩
theorem LAt.runes {w : World} {v : Value} {g : Nat} {l : List Int} (h : LAt w v g l) : RunesAt w.heap.size w v l := by
  rcases h with ⟨rfl, rfl⟩ | ⟨cap, h1, h2, h3, h4⟩
  · exact ⟨none, 0, rfl, fun h => by simp at h⟩
  · exact ⟨_, cap, h1, fun _ => ⟨g, 0, rfl, h3, fun i x hi => by rw [Nat.zero_add]; exact (holds_get h4 hi).1⟩⟩
theorem LAt.at {w : World} {v : Value} {g : Nat} {l : List Int} (h : LAt w v g l) {k : Nat} {x : Int} (hk : l[k]? = some x) : ∃ cap, v = .slice (some ⟨g, 0, none⟩) l.length cap ∧ g < w.heap.size ∧ w.cell? ⟨g, k, none⟩ = some (.int .i32 x) ∧ w.frozen? ⟨g, k, none⟩ = false := by
  rcases h with ⟨_, rfl⟩ | ⟨cap, h1, h2, h3, h4⟩
  · simp at hk
  · exact ⟨cap, h1, h3, holds_get h4 hk⟩
theorem Made.line {B : Nat} {w : World} {v : Value} {xs : List Int} (h : Made B w v xs) : ∃ g, B ≤ g ∧ LAt w v g xs ∧ (v = .slice none 0 0 ∨ v.ownBlock = some g) := by
  obtain ⟨hl, hn | ⟨g, cap, cur, rfl, hb, hg, h1, h2, h3, h4⟩⟩ := h
  · obtain ⟨rfl, h0⟩ := hn
    exact ⟨B, Nat.le_refl _, .inl ⟨rfl, List.length_eq_zero_iff.1 h0⟩, .inl rfl⟩
  · refine ⟨g, hb, .inr ⟨cap, rfl, h1, (Array.getElem?_eq_some_iff.1 hg).1, holds_mk fun i x hi => ?_⟩, .inr rfl⟩
    have hi' := (List.getElem?_eq_some_iff.1 hi).1
    have hc : cur[i]? = some (.int .i32 x) := by
      have e : (cur.toList.take (xs.length * 1))[i]? = (xs.map (Value.int .i32))[i]? := by rw [h4]
      rw [List.getElem?_take, if_pos (by omega)] at e
      rw [← Array.getElem?_toList, e, List.getElem?_map, hi]
      rfl
    refine ⟨?_, ?_⟩
    · simp only [World.cell?, hg]; simpa using hc
    · simp only [World.frozen?, hg]; simp
theorem but_putRow {w : World} {g q : Nat} (d : Array Int) : But g w (Sort.putRow encN (Sort.ahead w q) g 0 d) :=
  ⟨rfl, rfl, rfl, by rw [Sort.size_putRow]; exact Nat.le_refl _, fun k _ hk => by
    show ((Sort.ahead w q).heap.modify g _)[k]? = _
    rw [Array.getElem?_modify, if_neg (fun e => hk e.symm)]
    rfl⟩

/-- slices.Reverse at a line. -/
theorem Reverse_any (v : Value) (g : Nat) (l : List Int) (w : World) (h : LAt w v g l) (hl : l.length ≤ 1000000) :
    Calls Tryd.prog 66 #[v] w fun e w' => e = .returned (.tuple #[]) ∧ LAt w' v g l.reverse ∧ But g w w' := by
  rcases h with ⟨rfl, rfl⟩ | ⟨cap, rfl, h2, h3, h4⟩
  · refine (AnyE.slices_Reverse_empty revRu none 0 w).mono ?_
    rintro e w' ⟨rfl, rfl⟩
    exact ⟨rfl, .inl ⟨rfl, rfl⟩, But.refl _ _⟩
  · refine (AnyE.slices_Reverse revRu encN (fun _ => rfl) g 0 cap l w h4 (by omega)).mono ?_
    rintro e w' ⟨rfl, n, rfl⟩
    refine ⟨rfl, .inr ⟨cap, by rw [List.length_reverse], by rw [List.length_reverse]; exact h2, by rw [Sort.size_putRow]; exact h3, ?_⟩, but_putRow _⟩
    exact Sort.holds_putRow encN (Sort.ahead w n) g 0 l.toArray _ h4 (by simp)

/-- A line without its holes. -/
def un (l : List Int) : List Int := l.filter fun x => !(x == -1)
theorem isHole_any (x : Int) (w : World) : Calls Tryd.prog 84 #[.int .i32 x] w fun e w' => e = .returned (.bool (x == -1)) ∧ w' = w := by
  go_enter Tryd.func84, Tryd.ntmps84
  go_wp2
  go_ret
  exact ⟨rfl, rfl⟩
theorem hole_gives (x : Int) (W : World) : FnGives Tryd.prog 84 #[] #[encN x] (.bool (x == -1)) W := by
  refine (isHole_any x W).mono ?_
  rintro e w' ⟨rfl, rfl⟩
  exact ⟨rfl, 0, rfl⟩
theorem infoR2 : ∀ w, (sizeOf 21).run Tryd.prog w = .ok 1 w := fun w => by
  obtain ⟨i0, hi, hz0, hz1, hz2⟩ := info_parts infoRune
  simp [sizeOf, typeInfo, hi, hz1]
theorem zeroR2 : ∀ w, (zeroValue 21).run Tryd.prog w = .ok (encN 0) w := fun w => by
  obtain ⟨i0, hi, hz0, hz1, hz2⟩ := info_parts infoRune
  simp [zeroValue, typeInfo, hi, hz0]
theorem Clone_any (v : Value) (g : Nat) (l : List Int) (w : World) (h : LAt w v g l) (hl : l.length ≤ 1000000) :
    Calls Tryd.prog 83 #[v] w fun e w' => ∃ v', e = .returned v' ∧ Made w.heap.size w' v' l ∧ Below w.heap.size w w' := by
  rcases h with ⟨rfl, rfl⟩ | ⟨cap, rfl, h2, h3, h4⟩
  · refine (AnyE.slices_Clone_nil cloRu 0 0 w).mono ?_
    rintro e w' ⟨rfl, rfl⟩
    exact ⟨_, rfl, World.ownsRow_nil _ _ _ _, Below.refl _ _⟩
  · obtain ⟨i0, hi, hz0, hz1, hz2⟩ := info_parts infoRune
    refine (AnyE.slices_Clone cloRu i0 (.int .i32 0) 1 4 hi hz0 hz1 hz2 rfl (by decide) infoR2 g 0 l.length cap (l.map (Value.int .i32)) w (by simp) (by unfold maxLen; omega) (by omega) (fun j u hj => ?_) (fun u hu => ?_)).mono ?_
    · rw [List.getElem?_map] at hj
      cases hx : l[j]? with
      | none => rw [hx] at hj; cases hj
      | some x => rw [hx] at hj; obtain rfl := Option.some.inj hj; rw [Nat.zero_add]; exact (holds_get h4 hx).1
    · obtain ⟨x, _, rfl⟩ := List.mem_map.1 hu; rfl
    · rintro e w' ⟨v', rfl, ho, _, hb⟩
      exact ⟨v', rfl, ho, hb⟩
set_option maxHeartbeats 1000000 in
theorem Delete_nil (w : World) : Calls Tryd.prog 82 #[.slice none 0 0, .func (.func 84) #[] #[]] w fun e w' => e = .returned (.slice none 0 0) ∧ w' = w := by
  have hI : Calls Tryd.prog 98 #[.slice none 0 0, .func (.func 84) #[] #[]] w fun e w' => e = .returned (.int .i64 (-1)) ∧ w' = w := by
    go_enter Tryd.func98, Tryd.ntmps98
    go_wp2
    refine wp_loop_rounds 1 ?_
    rw [rounds_succ]
    go_wp2
    go_ret
    exact ⟨rfl, rfl⟩
  go_enter Tryd.func82, Tryd.ntmps82
  go_wp2_with (go_at_call 98; refine hI.mono ?_; rintro e w' ⟨rfl, rfl⟩)
  go_ret
  exact ⟨rfl, rfl⟩
theorem Delete_any (B : Nat) (v : Value) (l : List Int) (w : World) (h : Made B w v l) (hB : B ≤ w.heap.size) (hl : l.length ≤ 1000000) :
    Calls Tryd.prog 82 #[v, .func (.func 84) #[] #[]] w fun e w' => ∃ v', e = .returned v' ∧ Row w' v' (un l) ∧ Below B w w' := by
  obtain ⟨g, hg, hL, _⟩ := h.line
  rcases hL with ⟨rfl, rfl⟩ | ⟨cap, rfl, h2, h3, h4⟩
  · refine (Delete_nil w).mono ?_
    rintro e w' ⟨rfl, rfl⟩
    exact ⟨_, rfl, ⟨none, 0, rfl, fun h => by simp [un] at h⟩, Below.refl _ _⟩
  · have hcon := AnyE.slices_DeleteFunc delRu encN (fun _ => rfl) (fun x => x == -1) 84 #[] (enters_of Tryd.func84 (by kernel_rfl) rfl) 0 zeroR2 g 0 cap l.toArray w (fun W x _ => hole_gives x W) (fun _ _ _ x _ => hole_gives x _) h4 (by simp; omega) (by simpa using h2)
    refine (show Calls Tryd.prog 82 #[.slice (some ⟨g, 0, none⟩) l.length cap, .func (.func 84) #[] #[]] w _ from hcon).mono ?_
    rintro e w' ⟨rfl, q, rfl⟩
    have hfl : (l.filter fun x => !(x == -1)).length ≤ l.length := List.length_filter_le _ _
    refine ⟨_, rfl, ⟨_, _, rfl, fun _ => ⟨g, 0, rfl, fun i hi => ?_⟩⟩, (but_putRow _).below hg hB⟩
    have := Sort.cell?_putRow encN (Sort.ahead w q) g 0 l.toArray ((l.filter fun x => !(x == -1)) ++ List.replicate (l.length - (l.filter fun x => !(x == -1)).length) 0).toArray h4 (by simp; omega) i (by unfold un at hi; simp; omega)
    refine Eq.trans this ?_
    unfold un at hi ⊢
    congr 2
    rw [getElem!_pos _ i (by simp; omega)]
    simp only [List.getElem_toArray]
    rw [List.getElem_append_left hi, List.getD_eq_getElem?_getD, List.getElem?_eq_getElem hi]
    rfl
/-- edit.said. -/
theorem esaid_any (v : Value) (g : Nat) (l : List Int) (w : World) (ht : Tabs w) (h : LAt w v g l) (hl : l.length ≤ 1000000) :
    Calls Tryd.prog 64 #[v] w fun e w' => e = .returned (.string (textS (un l))) ∧ Below w.heap.size w w' := by
  have hul : (un l).length ≤ l.length := List.length_filter_le _ _
  have HL : Hid (LAt w v g l) := h
  clear h
  go_enter Tryd.func64, Tryd.ntmps64
  go_wp2_with (first
    | (go_at_call 83; refine (Clone_any v g l _ HL.out hl).mono ?_; rintro e w1 ⟨v1, rfl, hm1, hb1⟩)
    | (go_at_call 82; refine (Delete_any w.heap.size v1 l _ hm1 hb1.size hl).mono ?_; rintro e w2 ⟨v2, rfl, hr2, hb2⟩)
    | (go_at_call 80; refine (Text_any v2 (un l) _ (ht.below (hb1.trans hb2)) hr2 (by omega)).mono ?_; rintro e w3 ⟨rfl, hb3⟩))
  go_ret
  exact ⟨rfl, (hb1.trans hb2).trans (hb3.mono (hb1.trans hb2).size)⟩
end Go.Proofs.YthfngcpcccbnpaaDoor

/- Lines with holes: mathematics of ways. -/
namespace Go.Proofs.YthfngcpcccbnpaaDoor
open Go.RowKit Nums Ed
set_option maxRecDepth 100000

/-- At how many places two lines differ. -/
def dif : List Int → List Int → Nat
  | x :: a, y :: b => (if x = y then 0 else 1) + dif a b
  | _, _ => 0
theorem un_cons (x : Int) (l : List Int) : un (x :: l) = if x = -1 then un l else x :: un l := by
  unfold un
  by_cases h : x = -1
  · rw [if_pos h, List.filter_cons_of_neg (by simp [h])]
  · rw [if_neg h, List.filter_cons_of_pos (by simp [h])]
theorem un_append (a b : List Int) : un (a ++ b) = un a ++ un b := List.filter_append a b
theorem dif_append : ∀ (a b c d : List Int), a.length = b.length → dif (a ++ c) (b ++ d) = dif a b + dif c d
  | [], [], c, d, _ => by simp [dif]
  | [], _ :: _, c, d, h => by simp at h
  | _ :: _, [], c, d, h => by simp at h
  | x :: a, y :: b, c, d, h => by
    rw [List.cons_append, List.cons_append, dif, dif, dif_append a b c d (by simpa using h)]
    omega
theorem dif_rev : ∀ (a b : List Int), a.length = b.length → dif a.reverse b.reverse = dif a b
  | [], [], _ => rfl
  | [], _ :: _, h => by simp at h
  | _ :: _, [], h => by simp at h
  | x :: a, y :: b, h => by
    have h' : a.length = b.length := by simpa using h
    rw [List.reverse_cons, List.reverse_cons, dif_append _ _ _ _ (by simp [h']), dif_rev a b h', dif]
    simp [dif]
    omega
theorem dif_zero : ∀ (a b : List Int), a.length = b.length → (∀ k, k < a.length → a[k]? = b[k]?) → dif a b = 0 ∧ a = b := by
  intro a b hl h
  have e : a = b := List.ext_getElem? (fun i => by
    by_cases hi : i < a.length
    · exact h i hi
    · rw [List.getElem?_eq_none (by omega), List.getElem?_eq_none (by omega)])
  subst e
  refine ⟨?_, rfl⟩
  clear h hl
  induction a with
  | nil => rfl
  | cons x a ih => simp [dif, ih]
theorem dif_set : ∀ (a b : List Int) (k : Nat) (x y : Int), a[k]? = some x → b[k]? = some y → x ≠ y → dif (a.set k y) b + 1 = dif a b
  | [], _, k, x, y, h, _, _ => by simp at h
  | _ :: _, [], k, x, y, _, h, _ => by simp at h
  | c :: a, d :: b, 0, x, y, h1, h2, hne => by
    simp at h1 h2
    subst h1; subst h2
    rw [List.set_cons_zero, dif, dif, if_pos rfl, if_neg hne]
    omega
  | c :: a, d :: b, k + 1, x, y, h1, h2, hne => by
    have := dif_set a b k x y (by simpa using h1) (by simpa using h2) hne
    rw [List.set_cons_succ, dif, dif]
    omega
/-- A line of which one place is turned is one edit from itself. -/
theorem set_once {l : List Int} {k : Nat} {x y : Int} (hx : l[k]? = some x) (hne : x ≠ y) : lv (un l) (un (l.set k y)) = 1 := by
  obtain ⟨hk, rfl⟩ := List.getElem?_eq_some_iff.1 hx
  have e1 : l = l.take k ++ l[k] :: l.drop (k + 1) := by rw [← List.drop_eq_getElem_cons hk, List.take_append_drop]
  have e2 : l.set k y = l.take k ++ y :: l.drop (k + 1) := List.set_eq_take_append_cons_drop.trans (by rw [if_pos hk])
  have hle : lv (un l) (un (l.set k y)) = lv (un (l[k] :: l.drop (k + 1))) (un (y :: l.drop (k + 1))) := by
    have eu : un l = un (l.take k) ++ un (l[k] :: l.drop (k + 1)) := by rw [← un_append, ← e1]
    rw [e2, eu, un_append, lv_pre]
  rw [hle, un_cons, un_cons]
  generalize un (l.drop (k + 1)) = t
  by_cases c1 : l[k] = -1
  · rw [if_pos c1, if_neg (fun e => hne (c1.trans e.symm))]
    have h1 : lv t (y :: t) ≤ 1 := lv_al (.ins (Al.refl t))
    have h2 := lv_bds t (y :: t)
    simp only [List.length_cons] at h2
    omega
  · rw [if_neg c1]
    by_cases c2 : y = -1
    · rw [if_pos c2]
      have h1 : lv (l[k] :: t) t ≤ 1 := lv_al (.del (Al.refl t))
      have h2 := lv_bds (l[k] :: t) t
      simp only [List.length_cons] at h2
      omega
    · rw [if_neg c2]
      have h1 : lv (l[k] :: t) (y :: t) ≤ 1 := lv_al (.sub hne (Al.refl t))
      have h2 : lv (l[k] :: t) (y :: t) ≠ 0 := fun e => hne (by have := lv_zero.1 e; simpa using this)
      omega
/-- Texts, one edit from each other. -/
structure Way (ls : List (List Int)) (x : List Int) (z : List Int) : Prop where
  first : ls[0]? = some x
  last : ls[ls.length - 1]? = some z
  once : ∀ i a b, ls[i]? = some a → ls[i + 1]? = some b → lv a b = 1
theorem Way.one (x : List Int) : Way [x] x x := ⟨rfl, rfl, fun i a b _ h => by simp at h⟩
theorem Way.pos {ls : List (List Int)} {x z : List Int} (h : Way ls x z) : 0 < ls.length := (List.getElem?_eq_some_iff.1 h.first).1
theorem Way.snoc {ls : List (List Int)} {x z y : List Int} (h : Way ls x z) (ho : lv z y = 1) : Way (ls ++ [y]) x y := by
  have hp := h.pos
  refine ⟨by rw [List.getElem?_append_left hp]; exact h.first, by rw [List.length_append]; simp, fun i a b h1 h2 => ?_⟩
  by_cases c : i + 1 < ls.length
  · rw [List.getElem?_append_left (by omega)] at h1
    rw [List.getElem?_append_left c] at h2
    exact h.once i a b h1 h2
  · have hi : i + 1 = ls.length := by
      have := (List.getElem?_eq_some_iff.1 h2).1
      simp at this; omega
    rw [List.getElem?_append_left (by omega)] at h1
    rw [hi, List.getElem?_append_right (Nat.le_refl _)] at h2
    simp at h2
    subst h2
    have h3 := h.last
    rw [show ls.length - 1 = i by omega, h1] at h3
    obtain rfl := Option.some.inj h3
    exact ho

theorem dif_le : ∀ a b : List Int, dif a b ≤ a.length
  | [], _ => by simp [dif]
  | _ :: _, [] => by simp [dif]
  | x :: a, y :: b => by
    have := dif_le a b
    simp only [dif, List.length_cons]
    split <;> omega
/-- What a place of a line may hold. -/
def okR (x : Int) : Prop := x = -1 ∨ isR x = true
theorem isR_ne {x : Int} (h : isR x = true) : x ≠ -1 := by have := isR_bd h; omega
theorem un_isR {l : List Int} (h : ∀ x ∈ l, okR x) : (un l).all isR = true := by
  rw [List.all_eq_true]
  intro x hx
  unfold un at hx
  rw [List.mem_filter] at hx
  rcases h x hx.1 with e | e
  · rw [e] at hx; simp at hx
  · exact e
end Go.Proofs.YthfngcpcccbnpaaDoor

/- edit.turned: one text behind the other. -/
namespace Go.Proofs.YthfngcpcccbnpaaDoor
open Go.RowKit Nums Ed
set_option maxRecDepth 100000

theorem infoStr : (Tryd.prog.info? 9).map (fun i => (i.zero, i.size, i.bytes)) = some (some (.string ByteArray.empty), 1, 16) := by kernel_rfl
/-- A row of texts that the call has made. -/
def SMade (B : Nat) (w : World) (v : Value) (ss : List ByteArray) : Prop := w.ownsRow B 9 1 v ss.length (ss.map Value.string)
theorem SMade.new (w : World) (s : ByteArray) : SMade w.heap.size (w.alloc (.cells #[.string s] 9)) (.slice (some ⟨w.heap.size, 0, none⟩) 1 1) [s] :=
  ⟨rfl, .inr ⟨w.heap.size, 1, #[.string s], rfl, Nat.le_refl _, (MapKept.heap_alloc w _).1, Nat.le_refl _, by decide, rfl, rfl⟩⟩
theorem SMade.same {B : Nat} {w w' : World} {v : Value} {ss : List ByteArray} (h : SMade B w v ss) (e : ∀ g, v.ownBlock = some g → w'.heap[g]? = w.heap[g]?) : SMade B w' v ss := by
  obtain ⟨hl, hn | ⟨g, cap, cur, rfl, h1, hg, h2⟩⟩ := h
  · exact ⟨hl, .inl hn⟩
  · exact ⟨hl, .inr ⟨g, cap, cur, rfl, h1, (e g rfl).trans hg, h2⟩⟩
theorem SMade.block {B : Nat} {w : World} {v : Value} {ss : List ByteArray} (h : SMade B w v ss) {g : Nat} (hg : v.ownBlock = some g) : B ≤ g ∧ g < w.heap.size ∧ ∃ cur, w.heap[g]? = some (.cells cur 9 (0, 0)) := by
  obtain ⟨hl, ⟨e, _⟩ | ⟨g', cap, cur, rfl, h1, h2, _⟩⟩ := h
  · rw [e] at hg; cases hg
  · simp only [Value.ownBlock, Option.some.injEq] at hg
    subst hg
    exact ⟨h1, (Array.getElem?_eq_some_iff.1 h2).1, cur, h2⟩
theorem SMade.mono {B B' : Nat} {w : World} {v : Value} {ss : List ByteArray} (h : SMade B w v ss) (hB : B' ≤ B) : SMade B' w v ss := by
  obtain ⟨hl, hn | ⟨g, cap, cur, rfl, h1, h2⟩⟩ := h
  · exact ⟨hl, .inl hn⟩
  · exact ⟨hl, .inr ⟨g, cap, cur, rfl, by omega, h2⟩⟩
theorem SMade.at {B : Nat} {w : World} {v : Value} {ss : List ByteArray} (h : SMade B w v ss) (h0 : 0 < ss.length) : ∃ g cap, v = .slice (some ⟨g, 0, none⟩) ss.length cap ∧ ∀ (i : Nat) (s : ByteArray), ss[i]? = some s → w.cell? ⟨g, i, none⟩ = some (.string s) := by
  obtain ⟨hl, hn | ⟨g, cap, cur, rfl, hb, hg, h1, h2, h3, h4⟩⟩ := h
  · omega
  · refine ⟨g, cap, rfl, fun i x hi => ?_⟩
    have hi' := (List.getElem?_eq_some_iff.1 hi).1
    have hc : cur[i]? = some (.string x) := by
      have e : (cur.toList.take (ss.length * 1))[i]? = (ss.map Value.string)[i]? := by rw [h4]
      rw [List.getElem?_take, if_pos (by omega)] at e
      rw [← Array.getElem?_toList, e, List.getElem?_map, hi]
      rfl
    simp only [World.cell?, hg]
    simpa using hc

/-- What is known in the loops of turned. -/
structure TI (w wr : World) (vl : Value) (gl gb : Nat) (line to cur : List Int) (ls : List (List Int)) (v : Value) : Prop where
  str : SMade w.heap.size wr v (ls.map textS)
  way : Way ls (un line) (un cur)
  cnt : ls.length + dif cur to = dif line to + 1
  okl : ∀ l ∈ ls, l.all isR = true ∧ l.length ≤ line.length
  lat : LAt wr vl gl cur
  len : cur.length = line.length
  okc : ∀ x ∈ cur, okR x
  bls : wr.heap[gb]? = some (.cells #[.bool false, .bool true] 4 (0, 0))
  but : But gl w wr
theorem TI.small {w wr : World} {vl : Value} {gl gb : Nat} {line to cur : List Int} {ls : List (List Int)} {v : Value} (h : TI w wr vl gl gb line to cur ls v) : ls.length ≤ line.length + 1 := by
  have := h.cnt; have := dif_le line to; omega
/-- One place is turned, and the text is told. -/
theorem TI.step {w wr w2 w3 : World} {vl : Value} {gl gb : Nat} {line to cur : List Int} {ls : List (List Int)} {v v' : Value} (h : TI w wr vl gl gb line to cur ls v) (hgl : gl < w.heap.size) (hgb : w.heap.size ≤ gb) {k : Nat} {x y : Int} (hx : cur[k]? = some x) (hy : to[k]? = some y) (hne : x ≠ y) (hok : okR y)
    (hb2 : Below wr.heap.size (wr.setCell ⟨gl, k, none⟩ (.int .i32 y)) w2)
    (hown : w3.ownsRow w.heap.size 9 1 v' ((ls.map textS).length + 1) ((ls.map textS).map Value.string ++ [.string (textS (un (cur.set k y)))])) (hgr : (w2.alloc (.cells #[.string (textS (un (cur.set k y)))] 9)).grownBy w3 v.ownBlock) :
    TI w w3 vl gl gb line to (cur.set k y) (ls ++ [un (cur.set k y)]) v' := by
  have hk : k < cur.length := (List.getElem?_eq_some_iff.1 hx).1
  have hsz : (wr.setCell ⟨gl, k, none⟩ (.int .i32 y)).heap.size = wr.heap.size := by simp [World.setCell]
  have hs2 : wr.heap.size ≤ w2.heap.size := by have := hb2.size; omega
  have hs3 : w2.heap.size ≤ w3.heap.size := by have := hgr.size; simp at this; omega
  have hwr := h.but.size
  have hblk : ∀ j, j < wr.heap.size → j ≠ gl → v.ownBlock ≠ some j → w3.heap[j]? = wr.heap[j]? := fun j hj hg hv => by
    rw [hgr.block j (by simp; omega) (fun e => hv e.symm), Below.heap_alloc _ _ _ (by omega), hb2.block j hj, Below.heap_setCell _ _ _ _ hg]
  have hownb : ∀ j, v.ownBlock = some j → w.heap.size ≤ j := fun j hj => (h.str.block hj).1
  have hgbl : gb < wr.heap.size := (Array.getElem?_eq_some_iff.1 h.bls).1
  have hvb : v.ownBlock ≠ some gb := fun e => by
    obtain ⟨_, _, cur', hc⟩ := h.str.block e
    rw [h.bls] at hc
    simp only [Option.some.injEq, Obj.cells.injEq] at hc
    exact absurd hc.2.1 (by decide)
  have hcur2 : ∀ z ∈ cur.set k y, okR z := fun z hz => by
    rcases List.mem_or_eq_of_mem_set hz with hz | rfl
    · exact h.okc z hz
    · exact hok
  refine ⟨?_, h.way.snoc (set_once hx hne), ?_, ?_, ?_, by rw [List.length_set]; exact h.len, hcur2, ?_, ?_⟩
  · unfold SMade
    simpa using hown
  · have := dif_set cur to k x y hx hy hne
    have := h.cnt
    rw [List.length_append, List.length_singleton]; omega
  · intro l hl
    rcases List.mem_append.1 hl with hl | hl
    · exact h.okl l hl
    · rw [List.mem_singleton.1 hl]
      refine ⟨un_isR hcur2, Nat.le_trans (List.length_filter_le _ _) ?_⟩
      rw [List.length_set, h.len]; exact Nat.le_refl _
  · refine (h.lat.set hk y).same (by rw [hsz]; omega) fun hg => ?_
    rw [hsz] at hg
    rw [hgr.block gl (by simp; omega) (fun e => by have := hownb gl e.symm; omega), Below.heap_alloc _ _ _ (by omega), hb2.block gl hg]
  · rw [hblk gb hgbl (by omega) hvb]; exact h.bls
  · refine ⟨?_, ?_, ?_, by omega, fun j hj hg => ?_⟩
    · rw [hgr.os]; show w2.os = _; rw [hb2.os]; exact h.but.os
    · rw [hgr.tape]; show w2.tape = _; rw [hb2.tape]; exact h.but.tape
    · rw [hgr.output]; show w2.output = _; rw [hb2.output]; exact h.but.output
    · rw [hblk j (by omega) hg (fun e => by have := hownb j e; omega)]; exact h.but.block j hj hg
end Go.Proofs.YthfngcpcccbnpaaDoor

/- edit.turned: the walk. -/
namespace Go.Proofs.YthfngcpcccbnpaaDoor
open Go.RowKit Nums Ed
set_option maxRecDepth 100000

/-- What a place is once it was looked at. -/
def okp (p : Bool) (x y : Int) : Prop := x = y ∨ (p = false ∧ x = -1)

set_option maxHeartbeats 1000000 in
theorem turned_any (w0 : World) (vl vt : Value) (gl gt : Nat) (line to : List Int) (w : World) (ht0 : Tabs w0) (hb0 : Below w0.heap.size w0 w) (hgl0 : w0.heap.size ≤ gl) (hL : LAt w vl gl line) (hT : LAt w vt gt to) (hne : gt ≠ gl) (hlen : line.length = to.length) (hsm : to.length ≤ 100000) (hokL : ∀ x ∈ line, okR x) (hokT : ∀ x ∈ to, okR x) :
    Calls Tryd.prog 39 #[vl, vt] w fun e w' => ∃ v ls, e = .returned v ∧ SMade w.heap.size w' v (ls.map textS) ∧ Way ls (un line) (un to) ∧ ls.length = dif line to + 1 ∧ (∀ l ∈ ls, l.all isR = true ∧ l.length ≤ line.length) ∧ But gl w w' := by
  obtain ⟨i0, hi, hz0, hz1, hz2⟩ := info_parts infoStr
  obtain ⟨adt, capt, rfl⟩ := hT.runes.form
  have HT : Hid (LAt w (.slice adt to.length capt) gt to) := hT
  have HL : Hid (LAt w vl gl line) := hL
  have HOL : Hid (∀ x ∈ line, okR x) := hokL
  have HOT : Hid (∀ x ∈ to, okR x) := hokT
  have HLEN : Hid (line.length = to.length) := hlen
  clear hL hT hokL hokT hlen
  go_enter Tryd.func39, Tryd.ntmps39
  go_upto_region 2 with (go_at_call 64; refine (esaid_any vl gl line _ (ht0.below hb0) HL.out (by have := HLEN.out; omega)).mono ?_; rintro e w1 ⟨rfl, hb1⟩)
  obtain ⟨W1, hW1⟩ : ∃ W1, W1 = w1.alloc (.cells #[.string (textS (un line))] 9) := ⟨_, rfl⟩
  obtain ⟨W2, hW2⟩ : ∃ W2, W2 = W1.alloc (.cells #[.bool false, .bool true] 4) := ⟨_, rfl⟩
  obtain ⟨gs, hgs⟩ : ∃ gs, gs = w1.heap.size := ⟨_, rfl⟩
  obtain ⟨gb, hgb⟩ : ∃ gb, gb = W1.heap.size := ⟨_, rfl⟩
  have hbW1 : Below w1.heap.size w1 W1 := by rw [hW1]; exact (Below.refl _ w1).alloc (Nat.le_refl _) _
  have hbW2 : Below W1.heap.size W1 W2 := by rw [hW2]; exact (Below.refl _ W1).alloc (Nat.le_refl _) _
  have hbA : Below w.heap.size w W1 := hb1.trans (hbW1.mono hb1.size)
  have hbB : Below w.heap.size w W2 := hbA.trans (hbW2.mono hbA.size)
  have HTI : Hid (TI w W2 vl gl gb line to line [un line] (.slice (some ⟨gs, 0, none⟩) 1 1)) := by
    refine ⟨?_, Way.one _, by simp; omega, fun l hl => by rw [List.mem_singleton.1 hl]; exact ⟨un_isR HOL.out, List.length_filter_le _ _⟩, HL.out.below hbB, rfl, HOL.out, ?_, But.of_below hbB⟩
    · have h1 := (SMade.new w1 (textS (un line))).mono hb1.size
      rw [← hW1, ← hgs] at h1
      exact h1.same fun g hg => hbW2.block g ((h1.block hg).2.1)
    · rw [hgb, hW2]; exact (MapKept.heap_alloc W1 _).1
  have hgbw : w.heap.size ≤ gb := by rw [hgb]; exact hbA.size
  rw [← hW1, ← hgs]
  clear hbW1 hbW2 hbA hbB hb1
  have HW2 : Hid (W2 = W1.alloc (.cells #[.bool false, .bool true] 4)) := hW2
  have HGB : Hid (gb = W1.heap.size) := hgb
  clear hW1 hW2 hgs hgb
  go_wp2
  rw [← HW2.out]
  simp only [← HGB.out]
  go_loopw [5, 15] (fun v i wr => ∃ (q : Nat) (cur : List Int) (ls : List (List Int)) (v0 : Value), v0 = v ∧ q ≤ 2 ∧ i = .int .i64 q ∧ TI w wr vl gl gb line to cur ls v ∧ (1 ≤ q → ∀ (k : Nat) (x y : Int), cur[k]? = some x → to[k]? = some y → okp false x y) ∧ (2 ≤ q → ∀ (k : Nat) (x y : Int), cur[k]? = some x → to[k]? = some y → x = y)) (fun _ i _ => 2 - (intOf i).toNat)
  case atStart => exact ⟨0, line, _, _, rfl, by omega, rfl, HTI.out, fun h => absurd h (by omega), fun h => absurd h (by omega)⟩
  case round =>
    obtain ⟨q, cur0, ls0, v0, hv0, hq, rfl, hTI0, hok1, hok2⟩ := hrel
    subst hv0
    obtain ⟨wa, hwa⟩ : ∃ wa : World, wa = wr := ⟨_, rfl⟩
    subst hwa
    have HT0 : Hid (TI w wa vl gl gb line to cur0 ls0 v0) := hTI0
    have HK1 : Hid (1 ≤ q → ∀ (k : Nat) (x y : Int), cur0[k]? = some x → to[k]? = some y → okp false x y) := hok1
    have HK2 : Hid (2 ≤ q → ∀ (k : Nat) (x y : Int), cur0[k]? = some x → to[k]? = some y → x = y) := hok2
    clear hTI0 hok1 hok2 HTI
    by_cases hlt : q < 2
    · obtain ⟨p, hp⟩ : ∃ p : Bool, p = decide (q = 1) := ⟨_, rfl⟩
      have hcb : wa.cell? ⟨gb, q, none⟩ = some (.bool p) := by
        have hb := HT0.out.bls
        obtain rfl | rfl : q = 0 ∨ q = 1 := by omega
        · rw [hp]; simp [World.cell?, hb]
        · rw [hp]; simp [World.cell?, hb]
      have HP : Hid (p = decide (q = 1)) := hp
      clear hp
      have hqd : decide ((q : Int) < 2) = true := by simp; omega
      go_wp2
      go_loopw [5, 21] (fun v i wr => ∃ (k : Nat) (cur : List Int) (ls : List (List Int)) (v1 : Value), v1 = v ∧ k ≤ to.length ∧ i = .int .i64 k ∧ TI w wr vl gl gb line to cur ls v ∧ (q = 1 → ∀ (j : Nat) (x y : Int), cur[j]? = some x → to[j]? = some y → okp false x y) ∧ (∀ (j : Nat) (x y : Int), j < k → cur[j]? = some x → to[j]? = some y → okp p x y)) (fun _ i _ => to.length - (intOf i).toNat)
      case atStart => exact ⟨0, cur0, ls0, v0, rfl, Nat.zero_le _, rfl, HT0.out, fun h => HK1.out (by omega), fun j x y h => absurd h (by omega)⟩
      case round =>
        obtain ⟨k, cur, ls, v1, hv1, hk, rfl, hTI, hok1, hok2⟩ := hrel
        subst hv1
        have HTI : Hid (TI w wr vl gl gb line to cur ls v1) := hTI
        have HO1 : Hid (q = 1 → ∀ (j : Nat) (x y : Int), cur[j]? = some x → to[j]? = some y → okp false x y) := hok1
        have HO2 : Hid (∀ (j : Nat) (x y : Int), j < k → cur[j]? = some x → to[j]? = some y → okp p x y) := hok2
        clear hTI hok1 hok2
        by_cases hkt : k < to.length
        · obtain ⟨x, hx⟩ : ∃ x, cur[k]? = some x := ⟨_, List.getElem?_eq_getElem (by have := HTI.out.len; have := HLEN.out; omega)⟩
          obtain ⟨y, hy⟩ : ∃ y, to[k]? = some y := ⟨_, List.getElem?_eq_getElem hkt⟩
          have HX : Hid (cur[k]? = some x) := hx
          have HY : Hid (to[k]? = some y) := hy
          clear hx hy
          obtain ⟨capl, hvl, hgw, hcl, hfl⟩ := HTI.out.lat.at HX.out
          obtain ⟨capt2, hvt, _, hct, _⟩ := (HT.out.but HTI.out.but hne).at HY.out
          simp only [Value.slice.injEq] at hvt
          obtain ⟨rfl, _, rfl⟩ := hvt
          obtain ⟨n, hn⟩ : ∃ n, n = cur.length := ⟨_, rfl⟩
          rw [← hn] at hvl
          have hkn : k < n := by rw [hn]; exact (List.getElem?_eq_some_iff.1 HX.out).1
          clear hn
          subst hvl
          have hkn' : (k : Int) < (n : Int) := by omega
          by_cases hxy : x = y
          · have hxb : (x != y) = false := by simp [hxy]
            have HN : Hid (∀ (j : Nat) (x y : Int), j < k + 1 → cur[j]? = some x → to[j]? = some y → okp p x y) := fun j a b hj h1 h2 => by
              by_cases e : j = k
              · subst e
                rw [HX.out] at h1; rw [HY.out] at h2
                obtain rfl := Option.some.inj h1; obtain rfl := Option.some.inj h2
                exact .inl hxy
              · exact HO2.out j a b (by omega) h1 h2
            clear hxy
            go_wp2
            go_roundw
            case rel => exact ⟨k + 1, cur, ls, _, rfl, by omega, by go_num, HTI.out, HO1.out, HN.out⟩
            case measure => simp [intOf]; omega
          · have hxb : (x != y) = true := by simpa using hxy
            by_cases hpp : (x == -1) = p
            · have hpb : ((x == -1) == p) = true := by rw [hpp]; simp
              have hgl : gl < w.heap.size := by
                have hkl : k < line.length := by have := HLEN.out; omega
                obtain ⟨_, _, h, _⟩ := HL.out.at (List.getElem?_eq_getElem hkl)
                exact h
              obtain ⟨W5, hW5⟩ : ∃ W5, W5 = wr.setCell ⟨gl, k, none⟩ (.int .i32 y) := ⟨_, rfl⟩
              have HW5 : Hid (W5 = wr.setCell ⟨gl, k, none⟩ (.int .i32 y)) := hW5
              have hsz5 : Hid (W5.heap.size = wr.heap.size) := by unfold Hid; rw [hW5]; simp [World.setCell]
              have hbW : Below w0.heap.size w0 W5 := by
                rw [hW5]
                exact (hb0.trans (HTI.out.but.below hgl0 hb0.size)).setCell hgl0 _
              have HTB : Hid (Tabs W5) := ht0.below hbW
              have HL5 : Hid (LAt W5 (.slice (some ⟨gl, 0, none⟩) n capl) gl (cur.set k y)) := by
                rw [hW5]
                exact HTI.out.lat.set (List.getElem?_eq_some_iff.1 HX.out).1 y
              have HS2 : Hid (∀ w2, Below W5.heap.size W5 w2 → SMade w.heap.size w2 v1 (ls.map textS)) := fun w2 hb => by
                refine HTI.out.str.same fun g hg => ?_
                have hgb := HTI.out.str.block hg
                rw [hb.block g (by rw [hsz5.out]; exact hgb.2.1), hW5, Below.heap_setCell _ _ _ _ (by show g ≠ gl; omega)]
              have hcl5 : Hid ((cur.set k y).length ≤ 1000000) := by unfold Hid; rw [List.length_set, HTI.out.len]; have := HLEN.out; omega
              have hls : Hid ((ls.map textS).length ≤ 200000) := by unfold Hid; rw [List.length_map]; have := HTI.out.small; have := HLEN.out; omega
              have HST : Hid (∀ w2 w3 v', Below W5.heap.size W5 w2 → w3.ownsRow w.heap.size 9 1 v' ((ls.map textS).length + 1) ((ls.map textS).map Value.string ++ [.string (textS (un (cur.set k y)))]) → (w2.alloc (.cells #[.string (textS (un (cur.set k y)))] 9)).grownBy w3 v1.ownBlock → TI w w3 (.slice (some ⟨gl, 0, none⟩) n capl) gl gb line to (cur.set k y) (ls ++ [un (cur.set k y)]) v') := fun w2 w3 v' hb2 ho hg =>
                HTI.out.step hgl hgbw HX.out HY.out hxy (HOT.out y (List.mem_of_getElem? HY.out)) (by rw [hsz5.out, hW5] at hb2; exact hb2) ho hg
              have hszW := HTI.out.but.size
              clear hbW hW5
              have HXY : Hid (x ≠ y) := hxy
              clear hxy hpp
              go_upto_region 10 with (fail)
              rw [← HW5.out]
              go_wp2_with (first
                | (go_at_call 64; refine (esaid_any _ gl (cur.set k y) _ HTB.out HL5.out hcl5.out).mono ?_; rintro e w2 ⟨rfl, hb2⟩)
                | (at_builtin; refine wpList_append_own _ rfl _ _ 44 rfl w.heap.size 9 i0 (.string ByteArray.empty) 1 16 Tryd.underlying44 hi hz0 hz1 hz2 rfl (by decide) _ _ _ rfl (World.ownsRow.alloc (HS2.out w2 hb2) _) ⟨w2.heap.size, 0, none⟩ 1 1 [.string (textS (un (cur.set k y)))] rfl rfl ?c1 ?c2 ?c3 ?c4 ?c5 ?_))
              case c1 =>
                intro j u hj
                match j, hj with
                | 0, hj => simp at hj; subst hj; exact new_cell w2 _ _
              case c2 => intro u hu; simp at hu; subst hu; rfl
              case c3 => unfold maxLen; have := hls.out; omega
              case c4 => have := hls.out; omega
              case c5 => have := hb2.size; have := hsz5.out; simp; omega
              intro v' w3 hown' hgrow _
              have HTI3 : Hid (TI w w3 (.slice (some ⟨gl, 0, none⟩) n capl) gl gb line to (cur.set k y) (ls ++ [un (cur.set k y)]) v') := HST.out w2 w3 v' hb2 (by simpa using hown') hgrow
              clear hown' hgrow
              go_wp2
              go_roundw
              case rel =>
                refine ⟨k + 1, cur.set k y, _, _, rfl, by omega, by go_num, HTI3.out, fun h j a b h1 h2 => ?_, fun j a b hj h1 h2 => ?_⟩
                · rw [List.getElem?_set] at h1
                  by_cases e : k = j
                  · subst e
                    rw [if_pos rfl, if_pos (List.getElem?_eq_some_iff.1 HX.out).1] at h1
                    rw [HY.out] at h2
                    obtain rfl := Option.some.inj h1; obtain rfl := Option.some.inj h2
                    exact .inl rfl
                  · rw [if_neg e] at h1
                    exact HO1.out h j a b h1 h2
                · rw [List.getElem?_set] at h1
                  by_cases e : k = j
                  · subst e
                    rw [if_pos rfl, if_pos (List.getElem?_eq_some_iff.1 HX.out).1] at h1
                    rw [HY.out] at h2
                    obtain rfl := Option.some.inj h1; obtain rfl := Option.some.inj h2
                    exact .inl rfl
                  · rw [if_neg e] at h1
                    exact HO2.out j a b (by omega) h1 h2
              case measure => simp [intOf]; omega
            · have hpb : ((x == -1) == p) = false := by simpa using hpp
              have HN : Hid (∀ (j : Nat) (x y : Int), j < k + 1 → cur[j]? = some x → to[j]? = some y → okp p x y) := fun j a b hj h1 h2 => by
                by_cases e : j = k
                · subst e
                  rw [HX.out] at h1; rw [HY.out] at h2
                  obtain rfl := Option.some.inj h1; obtain rfl := Option.some.inj h2
                  cases p with
                  | false =>
                    have : (x == -1) = true := by simpa using hpp
                    exact .inr ⟨rfl, by simpa using this⟩
                  | true =>
                    have h3 : q = 1 := by have := HP.out; simpa using this
                    rcases HO1.out h3 j x y HX.out HY.out with e | ⟨_, e⟩
                    · exact absurd e hxy
                    · rw [e] at hpp; exact absurd rfl hpp
                · exact HO2.out j a b (by omega) h1 h2
              clear hxy hpp
              go_wp2
              go_roundw
              case rel => exact ⟨k + 1, cur, ls, _, rfl, by omega, by go_num, HTI.out, HO1.out, HN.out⟩
              case measure => simp [intOf]; omega
        · obtain rfl : k = to.length := by omega
          go_wp2
          go_roundw
          case rel =>
            refine ⟨q + 1, cur, ls, _, rfl, by omega, by go_num, HTI.out, fun _ j x y h1 h2 => ?_, fun h j x y h1 h2 => ?_⟩
            · rcases HO2.out j x y (List.getElem?_eq_some_iff.1 h2).1 h1 h2 with e | ⟨_, e⟩
              · exact .inl e
              · exact .inr ⟨rfl, e⟩
            · rcases HO2.out j x y (List.getElem?_eq_some_iff.1 h2).1 h1 h2 with e | ⟨e, _⟩
              · exact e
              · have := HP.out; rw [e] at this; simp at this; omega
          case measure => simp [intOf]; omega
    · obtain rfl : q = 2 := by omega
      go_wp2
      go_ret
      have h := HT0.out
      obtain ⟨hd, he⟩ := dif_zero cur0 to (by rw [h.len]; exact HLEN.out) (fun k hk => by
        have h2 := HK2.out (Nat.le_refl _) k cur0[k] (to[k]'(by have := h.len; have := HLEN.out; omega)) (List.getElem?_eq_getElem hk) (List.getElem?_eq_getElem _)
        rw [List.getElem?_eq_getElem hk, List.getElem?_eq_getElem (by have := h.len; have := HLEN.out; omega), h2])
      refine ⟨_, ls0, rfl, h.str, by rw [← he]; exact h.way, ?_, h.okl, h.but⟩
      have := h.cnt
      omega
end Go.Proofs.YthfngcpcccbnpaaDoor
