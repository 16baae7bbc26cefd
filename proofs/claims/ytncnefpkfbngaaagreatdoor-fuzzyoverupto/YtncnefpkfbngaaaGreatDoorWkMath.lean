/- What a walk tells of a dictionary's machine: mathematics. -/
import Derived.Test.YtncnefpkfbngaaaGreatDoorGd
import Derived.Test.YtncnefpkfbngaaaGreatDoorG2
namespace Go.Proofs.YtncnefpkfbngaaaGreatDoor.Pk
open Go.Proofs.YtncnefpkfbngaaaGreatDoor.Nums Go.Proofs.YtncnefpkfbngaaaGreatDoor.Fm Go.Proofs.YtncnefpkfbngaaaGreatDoor

/-- What is told behind a beginning. -/
def ud (head : List Int) (sum : Int) (R : List En) : List En := R.map fun e => (head ++ e.1, sum + e.2)
theorem ud_append (head : List Int) (sum : Int) (R S : List En) : ud head sum (R ++ S) = ud head sum R ++ ud head sum S := List.map_append
theorem ud_len (head : List Int) (sum : Int) (R : List En) : (ud head sum R).length = R.length := by simp [ud]
theorem ud_arc (head : List Int) (sum c o : Int) (R : List En) : ud head sum ((shift o R).map (pre c)) = ud (head ++ [c]) (sum + o) R := by
 simp only [ud, shift, List.map_map]
 refine List.map_congr_left fun e _ => ?_
 simp only [Function.comp, pre, List.append_assoc, List.singleton_append, Prod.mk.injEq, true_and]
 omega
/-- By the end of some arcs. -/
def udA (D : List (List En)) (head : List Int) (sum : Int) (l : List Arc) : List En := l.flatMap fun a => ud (head ++ [a.label]) (sum + a.out) (D[a.to]?.getD [])
def udF (head : List Int) (sum : Int) (s : St) : List En := if s.final then [(head, sum + s.out)] else []
theorem ud_flat (D : List (List En)) (head : List Int) (sum : Int) : ∀ l : List Arc, ud head sum (flat (outs D l)) = udA D head sum l
 | [] => rfl
 | a :: l => by
  have e : flat (outs D (a :: l)) = (shift a.out (D[a.to]?.getD [])).map (pre a.label) ++ flat (outs D l) := by simp [flat, outs]
  rw [e, ud_append, ud_arc, ud_flat D head sum l]
  simp [udA]
theorem ud_exp (D : List (List En)) (s : St) (head : List Int) (sum : Int) : ud head sum (exp D s) = udF head sum s ++ udA D head sum s.arcs := by
 rw [exp, ud_append, ud_flat]
 congr 1
 unfold fins udF ud
 cases s.final <;> simp
/-- How many. -/
theorem exp_len (D : List (List En)) (s : St) : (exp D s).length = (if s.final then 1 else 0) + (s.arcs.map fun a => (D[a.to]?.getD []).length).sum := by
 have h := congrArg List.length (ud_exp D s [] 0)
 rw [ud_len, List.length_append] at h
 rw [h]
 congr 1
 · unfold udF; cases s.final <;> rfl
 · unfold udA
   rw [List.length_flatMap]
   congr 1
   exact List.map_congr_left fun a _ => ud_len _ _ _
/-- What is known of a dictionary's machine. -/
structure MW (l : List Pr) (base : Int) (b : List St) (D : List (List En)) : Prop where
 inv : Inv D b
 rst : Rests base D
 ne : b ≠ []
 root : D[b.length - 1]? = some (level (ents l))
 top : ud [] base (level (ents l)) = ents l
theorem mach_walk {l : List Pr} (h : buildE l = 0) (hl : l ≠ []) : ∃ D, MW l (machOf l).1 (machOf l).2 D := by
 have hg := dict_good h hl
 obtain ⟨D, M⟩ := stF_spec 25 [] [] (ents l) Inv.nil hg
 obtain ⟨D2, hI2, hR⟩ := dict_rests h hl
 have e := inv_one M.inv hI2
 subst e
 have hrl : (stF 25 [] (ents l)).2 + 1 = (stF 25 [] (ents l)).1.length := root_last (f := 24) hg
 have hM : machOf l = (least (ents l), (stF 25 [] (ents l)).1) := by rw [machOf, if_pos ⟨h, hl⟩]
 rw [hM]
 refine ⟨D, M.inv, hR, fun e => ?_, ?_, ?_⟩
 · simp only at e
   rw [e] at hrl
   simp at hrl
 · simp only
   rw [← hrl, Nat.add_sub_cancel]
   exact M.num
 · have : shift (least (ents l)) (level (ents l)) = ents l := by rw [shift_level, Int.sub_self, shift_zero]
   conv => rhs; rw [← this]
   unfold ud shift
   refine List.map_congr_left fun e _ => ?_
   simp only [List.nil_append, Prod.mk.injEq, true_and]
   omega
theorem text_entW {x : Pr} (hx : ∃ xs, rs x.1.data.toList = some xs) : textS (entOf x).1 = x.1 := by
 obtain ⟨xs, hx⟩ := hx
 obtain ⟨h1, h2⟩ := rs_write hx
 have e : (entOf x).1 = xs := by rw [entOf, hx]; rfl
 rw [e]
 have h1' : allR xs = true := h1
 unfold textS
 rw [if_pos h1']
 have h3 : (xs.flatMap wrI).map (fun n => UInt8.ofNat n.toNat) = x.1.data.toList := by
  rw [← h2, List.map_flatMap]
  rfl
 unfold strOfNums
 rw [h3]
/-- What may be told behind a beginning. -/
structure Tells (base : Int) (head : List Int) (sum : Int) (R : List En) : Prop where
 ln : ∀ e ∈ R, head.length + e.1.length ≤ 24
 wt : ∀ e ∈ R, sum + e.2 ≤ 1048576
 lo : 0 ≤ sum
 hr : ∀ c ∈ head, wordR c = true
theorem Tells.arc {base : Int} {D : List (List En)} {b : List St} (hI : Inv D b) (hR : Rests base D) {i : Nat} {s : St} (hi : b[i]? = some s) {head : List Int} {sum : Int} (h : Tells base head sum (exp D s)) {a : Arc} (ha : a ∈ s.arcs) : Tells base (head ++ [a.label]) (sum + a.out) (D[a.to]?.getD []) ∧ head.length < 24 ∧ sum + a.out ≤ 1048576 := by
 obtain ⟨e1, e2, e3⟩ := hI.row i s hi
 have ht := e3.to a ha
 have hg : D[a.to]?.getD [] = D[a.to] := by rw [List.getElem?_eq_getElem ht]; rfl
 obtain ⟨f1, f2, f3, f4⟩ := arc_facts hI hR hi a ha
 rw [hg]
 have hne := hR.ne _ (List.getElem_mem ht)
 obtain ⟨e0, he0⟩ := List.exists_mem_of_ne_nil _ hne
 have key : ∀ e ∈ D[a.to], head.length + 1 + e.1.length ≤ 24 ∧ sum + a.out + e.2 ≤ 1048576 := fun e he => by
  have hin := arc_in ha ht he
  have h1 := h.ln _ hin
  have h2 := h.wt _ hin
  simp only [List.length_cons] at h1 h2
  omega
 have hk0 := key e0 he0
 have hn0 := hR.nn _ (List.getElem_mem ht) e0 he0
 have hlo := h.lo
 refine ⟨⟨fun e he => ?_, fun e he => (key e he).2, by omega, fun c hc => ?_⟩, by omega, by omega⟩
 · have := (key e he).1
   simp only [List.length_append, List.length_singleton]
   omega
 · rcases List.mem_append.1 hc with hc | hc
   · exact h.hr c hc
   · rw [List.mem_singleton.1 hc]; exact f4
theorem MW.tells {l : List Pr} {base : Int} {b : List St} {D : List (List En)} (h : MW l base b D) : Tells base [] base (level (ents l)) := by
 have hm := List.mem_of_getElem? h.root
 refine ⟨fun e he => by simpa using h.rst.ln _ hm e he, fun e he => ?_, by have := h.rst.lo; omega, fun c hc => by cases hc⟩
 have := h.rst.wt _ hm e he
 omega
theorem word_allR {xs : List Int} (h : ∀ c ∈ xs, wordR c = true) : allR xs = true := by
 unfold allR
 refine List.all_eq_true.2 fun c hc => ?_
 have := h c hc
 unfold wordR at this
 simp only [Bool.and_eq_true] at this
 exact this.1
end Go.Proofs.YtncnefpkfbngaaaGreatDoor.Pk
