/- Sorted lists of matches: a match is put in, the list is cut; what a keeper has kept. -/
import Derived.Test.YtmpfcdffpjocnaaBtMath
namespace Go.Proofs.Ytmpfcdffpjocnaa
open Go.RowKit Pm
namespace Bt
def ins (m : Mt) : List Mt → List Mt
  | [] => [m]
  | y :: r => if btr m y then m :: y :: r else y :: ins m r
def Srt (l : List Mt) : Prop := l.Pairwise fun a b => btr b a = false
theorem ins_perm (m : Mt) : ∀ l : List Mt, (ins m l).Perm (m :: l)
  | [] => .refl _
  | y :: r => by
    unfold ins
    split
    · exact .refl _
    · exact ((ins_perm m r).cons y).trans (.swap _ _ _)
theorem ins_len (m : Mt) (l : List Mt) : (ins m l).length = l.length + 1 := (ins_perm m l).length_eq
theorem ins_srt (m : Mt) : ∀ l : List Mt, Srt l → Srt (ins m l)
  | [], _ => List.pairwise_singleton _ _
  | y :: r, h => by
    have h' := List.pairwise_cons.1 h
    unfold ins
    split
    · rename_i hb
      refine List.pairwise_cons.2 ⟨fun a ha => ?_, h⟩
      rcases List.mem_cons.1 ha with rfl | ha
      · exact asy hb
      · exact nlt_trans (h'.1 a ha) (asy hb)
    · rename_i hb
      refine List.pairwise_cons.2 ⟨fun a ha => ?_, ins_srt m r h'.2⟩
      rcases List.mem_cons.1 ((ins_perm m r).mem_iff.1 ha) with rfl | ha
      · simpa using hb
      · exact h'.1 a ha
def stp (k : Nat) (o : List Mt) (m : Mt) : List Mt := (ins m o).take k
def bestF (k : Nat) (l : List Mt) : List Mt := l.foldl (stp k) []
def isort (l : List Mt) : List Mt := l.foldl (fun o m => ins m o) []
theorem bestF_nil (k : Nat) : bestF k [] = [] := rfl
theorem bestF_snoc (k : Nat) (l : List Mt) (m : Mt) : bestF k (l ++ [m]) = stp k (bestF k l) m := by simp [bestF, List.foldl_append]
theorem take_cons_take (y : Mt) (r : List Mt) : ∀ k, (y :: r.take k).take k = (y :: r).take k
  | 0 => rfl
  | k + 1 => by rw [List.take_succ_cons, List.take_succ_cons, List.take_take, Nat.min_eq_left (by omega)]
theorem ins_take (m : Mt) : ∀ (o : List Mt) (k : Nat), (ins m (o.take k)).take k = (ins m o).take k
  | [], k => by simp
  | _ :: _, 0 => by simp
  | y :: r, k + 1 => by
    rw [List.take_succ_cons]
    unfold ins
    split
    · rw [List.take_succ_cons, List.take_succ_cons, take_cons_take]
    · rw [List.take_succ_cons, List.take_succ_cons, ins_take m r k]
theorem fold_isort (k : Nat) : ∀ (l o : List Mt), l.foldl (stp k) (o.take k) = (l.foldl (fun o m => ins m o) o).take k
  | [], _ => rfl
  | m :: r, o => by
    rw [List.foldl_cons, List.foldl_cons, ← fold_isort k r (ins m o)]
    congr 1
    exact ins_take m o k
theorem bestF_isort (k : Nat) (l : List Mt) : bestF k l = (isort l).take k := by
  have := fold_isort k l []
  rw [List.take_nil] at this
  exact this
theorem fold_perm : ∀ (l o : List Mt), (l.foldl (fun o m => ins m o) o).Perm (l ++ o)
  | [], _ => .refl _
  | m :: r, o => by
    rw [List.foldl_cons]
    refine (fold_perm r (ins m o)).trans ?_
    exact ((List.perm_append_left_iff r).2 (ins_perm m o)).trans List.perm_middle
theorem isort_perm (l : List Mt) : (isort l).Perm l := by have := fold_perm l []; rwa [List.append_nil] at this
theorem fold_srt : ∀ (l o : List Mt), Srt o → Srt (l.foldl (fun o m => ins m o) o)
  | [], _, h => h
  | m :: r, o, h => fold_srt r _ (ins_srt m o h)
theorem isort_srt (l : List Mt) : Srt (isort l) := fold_srt l [] .nil
theorem srt_uni : ∀ (a b : List Mt), Srt a → Srt b → a.Perm b → a = b
  | [], b, _, _, h => by rw [h.symm.eq_nil]
  | x :: r, [], _, _, h => by cases h.eq_nil
  | x :: r, y :: s, ha, hb, h => by
    have ha' := List.pairwise_cons.1 ha
    have hb' := List.pairwise_cons.1 hb
    have e : x = y := by
      rcases List.mem_cons.1 (h.mem_iff.1 (List.mem_cons_self ..)) with e | h1
      · exact e
      · rcases List.mem_cons.1 (h.mem_iff.2 (List.mem_cons_self ..)) with e | h2
        · exact e.symm
        · exact btr_sto.3 _ _ (hb'.1 x h1) (ha'.1 y h2)
    subst e
    rw [srt_uni r s ha'.2 hb'.2 (List.Perm.cons_inv h)]
theorem isort_of_perm {l m : List Mt} (h : l.Perm m) : isort l = isort m := srt_uni _ _ (isort_srt l) (isort_srt m) ((isort_perm l).trans (h.trans (isort_perm m).symm))
theorem isort_self {l : List Mt} (h : Srt l) : isort l = l := srt_uni _ _ (isort_srt l) h (isort_perm l)
theorem bestF_srt (k : Nat) (l : List Mt) : Srt (bestF k l) := by rw [bestF_isort]; exact (isort_srt l).sublist (List.take_sublist _ _)
theorem bestF_len (k : Nat) (l : List Mt) : (bestF k l).length = min k l.length := by rw [bestF_isort, List.length_take, (isort_perm l).length_eq]
/-! What a keeper has kept: a heap of the best ones. -/
structure Kp (k : Nat) (out h : List Mt) : Prop where
  hp : Hp h.length h
  perm : h.Perm out
  srt : Srt out
  len : out.length ≤ k
theorem Kp.nil (k : Nat) : Kp k [] [] := ⟨fun _ _ h => by simp at h, .refl _, .nil, Nat.zero_le _⟩
theorem Kp.worst {k : Nat} {out h : List Mt} (K : Kp k out h) (h0 : 0 < h.length) : ∃ ini, out = ini ++ [el h 0] := by
  have hne : out ≠ [] := fun e => by have := K.perm.length_eq; rw [e, List.length_nil] at this; omega
  obtain ⟨ini, z, rfl⟩ : ∃ ini z, out = ini ++ [z] := ⟨out.dropLast, out.getLast hne, (List.dropLast_concat_getLast hne).symm⟩
  refine ⟨ini, ?_⟩
  have hz : z ∈ h := K.perm.mem_iff.2 (by simp)
  obtain ⟨i, hi, e⟩ := List.getElem_of_mem hz
  have e1 : el h i = z := by unfold el; rw [List.getElem?_eq_getElem hi, e]; rfl
  have h1 := K.hp.root i hi
  rw [e1] at h1
  have hm : el h 0 ∈ ini ++ [z] := K.perm.mem_iff.1 (List.mem_of_getElem? (el_get h0))
  rcases List.mem_append.1 hm with hm | hm
  · have h2 := (List.pairwise_append.1 K.srt).2.2 _ hm z (by simp)
    rw [btr_sto.3 _ _ h1 h2]
  · rw [List.mem_singleton.1 hm]
theorem stp_room {k : Nat} {out : List Mt} (m : Mt) (h : out.length < k) : stp k out m = ins m out := by
  unfold stp
  exact List.take_of_length_le (by rw [ins_len]; omega)
theorem ins_end (m : Mt) : ∀ l : List Mt, (∀ y ∈ l, btr m y = false) → ins m l = l ++ [m]
  | [], _ => rfl
  | y :: r, h => by
    unfold ins
    rw [h y (by simp), if_neg (by simp), ins_end m r (fun z hz => h z (by simp [hz]))]
    rfl
theorem ins_ahead (m z : Mt) (hz : btr m z = true) : ∀ l : List Mt, ins m (l ++ [z]) = ins m l ++ [z]
  | [] => by simp [ins, hz]
  | y :: r => by
    rw [List.cons_append]
    unfold ins
    split
    · rfl
    · rw [ins_ahead m z hz r]; rfl
theorem stp_no {k : Nat} {ini : List Mt} {z : Mt} (m : Mt) (hs : Srt (ini ++ [z])) (hk : k = ini.length + 1) (hb : btr m z = false) : stp k (ini ++ [z]) m = ini ++ [z] := by
  unfold stp
  rw [ins_end m _ (fun y hy => by
    rcases List.mem_append.1 hy with hy | hy
    · exact nlt_trans hb ((List.pairwise_append.1 hs).2.2 y hy z (by simp))
    · rw [List.mem_singleton.1 hy]; exact hb)]
  exact List.take_left' (by simp [hk])
theorem stp_yes {k : Nat} {ini : List Mt} {z : Mt} (m : Mt) (hk : k = ini.length + 1) (hb : btr m z = true) : stp k (ini ++ [z]) m = ins m ini := by
  unfold stp
  rw [ins_ahead m z hb]
  exact List.take_left' (by rw [ins_len, hk])
theorem stp_zero (out : List Mt) (m : Mt) : stp 0 out m = [] := rfl
theorem Kp.add {k : Nat} {out h h' : List Mt} (K : Kp k out h) (m : Mt) (hr : out.length < k) (hh : Hp h'.length h') (hp : h'.Perm (h ++ [m])) : Kp k (ins m out) h' :=
  ⟨hh, hp.trans ((List.perm_append_singleton m h).trans ((K.perm.cons m).trans (ins_perm m out).symm)), ins_srt m out K.srt, by rw [ins_len]; omega⟩
theorem Kp.less {k : Nat} {ini h h' : List Mt} {z : Mt} (K : Kp k (ini ++ [z]) h) (hh : Hp h'.length h') (hp : (z :: h').Perm h) : Kp k ini h' := by
  refine ⟨hh, ?_, (List.pairwise_append.1 K.srt).1, by have := K.len; simp at this; omega⟩
  exact List.Perm.cons_inv (hp.trans (K.perm.trans (List.perm_append_singleton z ini)))
theorem Kp.same_len {k : Nat} {out h : List Mt} (K : Kp k out h) : h.length = out.length := K.perm.length_eq
end Bt
end Go.Proofs.Ytmpfcdffpjocnaa
