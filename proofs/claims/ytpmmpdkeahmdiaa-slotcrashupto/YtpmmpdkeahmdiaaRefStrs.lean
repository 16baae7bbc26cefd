/- Rows of strings that a call has made. -/
import Derived.Test.YtpmmpdkeahmdiaaRefPut
namespace Go.Proofs.Ytpmmpdkeahmdiaa
open Go.RowKit
set_option maxRecDepth 100000

def strVals (vs : List (List Nat)) : List Value := vs.map fun u => .string (strB u)
def StrOwn (B : Nat) (w : World) (v : Value) (vs : List (List Nat)) : Prop := w.ownsRow B 9 1 v vs.length (strVals vs)
theorem info_str : (Try.prog.info? 9).map (fun i => (i.zero, i.size, i.bytes)) = some (some (.string (ByteArray.mk #[])), 1, 16) := by kernel_rfl
theorem StrOwn.below {B : Nat} {w w' : World} {v : Value} {vs : List (List Nat)} (h : StrOwn B w v vs) (hb : Below w.heap.size w w') : StrOwn B w' v vs := by
  obtain ⟨hl, hn | ⟨g, cap, cur, rfl, h1, hg, h2⟩⟩ := h
  · exact ⟨hl, .inl hn⟩
  · exact ⟨hl, .inr ⟨g, cap, cur, rfl, h1, (hb.block g (Array.getElem?_eq_some_iff.1 hg).1).trans hg, h2⟩⟩
theorem StrOwn.alloc {B : Nat} {w : World} {v : Value} {vs : List (List Nat)} (h : StrOwn B w v vs) (o : Obj) : StrOwn B (w.alloc o) v vs := h.below ((Below.refl _ w).alloc (Nat.le_refl _) o)
theorem StrOwn.shape {B : Nat} {w : World} {v : Value} {vs : List (List Nat)} (h : StrOwn B w v vs) : ∃ ad cap, v = .slice ad vs.length cap := by
  obtain ⟨hl, ⟨e, h0⟩ | ⟨g, cap, cur, rfl, _⟩⟩ := h
  · exact ⟨none, 0, by rw [e, h0]⟩
  · exact ⟨_, cap, rfl⟩
theorem StrOwn.shape2 {B : Nat} {w : World} {v : Value} {vs : List (List Nat)} (h : StrOwn B w v vs) : ∃ (ad : Option Addr) (n c : Nat), vs.length = n ∧ v = .slice ad n c := by
  obtain ⟨ad, c, e⟩ := h.shape
  exact ⟨ad, _, c, rfl, e⟩
theorem StrOwn.strs {P : Nat → Prop} {B : Nat} {w : World} {v : Value} {vs : List (List Nat)} (h : StrOwn B w v vs) (hP : ∀ b, B ≤ b → P b) (hne : vs ≠ []) : StrsAt P w v vs := by
  obtain ⟨hl, ⟨e, h0⟩ | ⟨g, cap, cur, rfl, h1, hg, h2, h3, h4, h5⟩⟩ := h
  · exact absurd (List.eq_nil_of_length_eq_zero h0) hne
  · refine ⟨g, cap, rfl, hP g h1, (Array.getElem?_eq_some_iff.1 hg).1, fun j u hj => ?_⟩
    have e : (strVals vs)[j]? = some (.string (strB u)) := by rw [strVals, List.getElem?_map, hj]; rfl
    rw [← h5, List.getElem?_take] at e
    split at e
    · simpa [World.cell?, hg] using e
    · cases e
theorem strs_none (B : Nat) (w : World) (hB : B ≤ w.heap.size) : StrOwn B (w.alloc (Obj.cells #[] 9)) (.slice (some ⟨w.heap.size, 0, none⟩) 0 0) [] := World.ownsRow_lit w #[] 0 hB (by decide) rfl
theorem strs_one (B : Nat) (w : World) (hB : B ≤ w.heap.size) (u : List Nat) : StrOwn B (w.alloc (Obj.cells #[.string (strB u)] 9)) (.slice (some ⟨w.heap.size, 0, none⟩) 1 1) [u] := World.ownsRow_lit w #[.string (strB u)] 1 hB (by decide) rfl
/-- Strings that are read: none, or as they lie. -/
def StrsIn (w : World) (v : Value) (vs : List (List Nat)) : Prop := (v = .slice none 0 0 ∧ vs = []) ∨ StrsAt (fun _ => True) w v vs
/-- 'append(p, q...)' where the call has made p. -/
theorem append_strs {w : World} {ops : Array Oper} {rest : List Oper} {o : Oper} {a : Act} {Q : Exit → Act → World → Prop} (hgd : o.guard = none) (s x : Operand)
    (ho : o.op = .call { callee := .builtin .append, args := #[s, x], argTypes := #[93, 93] }) (B : Nat) (v v2 : Value) (us vs : List (List Nat))
    (hs : a.eval s = v) (hown : StrOwn B w v us) (hx : a.eval x = v2) (hsrc : StrsIn w v2 vs) (hl : us.length + vs.length ≤ 4398046511104) (hB : B ≤ w.heap.size)
    (h : ∀ v' w', StrOwn B w' v' (us ++ vs) → Below B w w' → wpList Try.prog ops Q rest (a.put o.dst v') w') : wpList Try.prog ops Q (o :: rest) a w := by
  obtain ⟨i0, hi, hz0, hz1, hz2⟩ := info_parts info_str
  rcases hsrc with ⟨rfl, rfl⟩ | ⟨g, c, rfl, _, hg, hc⟩
  · refine wpList_step fun K hK => ?_
    rw [if_pos (by simp [Region.wanted, hgd])]
    have hrun := run_append_owned_none (P := Try.prog) (w := w) B 93 o.type 9 i0 1 Try.underlying93 hi v us.length (strVals us) hown
    unfold Oper.wp
    simp [execOp, ho, resolve, invoke, builtin, hs, hx, hrun, Result.andThen]
    exact hK _ _ (h _ _ (by simpa using hown) (Below.refl _ _))
  · refine wpList_append_own w hgd s x 93 ho B 9 i0 _ 1 16 Try.underlying93 hi hz0 hz1 hz2 rfl (by decide) v us.length _ hs hown ⟨g, 0, none⟩ vs.length c (strVals vs) hx (by simp [strVals]) ?_ ?_ (by unfold maxLen; omega) (by omega) hB ?_
    · intro j u hj
      have hadd : ∀ j, (⟨g, 0, none⟩ : Addr).add j = ⟨g, 0 + j, none⟩ := fun j => by unfold Addr.add; split <;> simp_all
      rw [strVals, List.getElem?_map] at hj
      obtain ⟨z, hz, rfl⟩ := Option.map_eq_some_iff.1 hj
      rw [hadd, Nat.zero_add]
      exact hc j z hz
    · intro u hu
      obtain ⟨z, _, rfl⟩ := List.mem_map.1 hu
      rfl
    · intro v' w' h5 h6 _
      refine h v' w' ?_ ((Below.refl B w).grown h6 hB (fun k hk => (World.ownsRow.lt hown k hk).1))
      unfold StrOwn
      rw [List.length_append, strVals, List.map_append]
      exact h5
end Go.Proofs.Ytpmmpdkeahmdiaa
