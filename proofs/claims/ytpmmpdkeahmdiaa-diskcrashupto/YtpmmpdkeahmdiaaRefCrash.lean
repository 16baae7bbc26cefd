/- The reference of the disk: Crash, what is kept round by round. -/
import Derived.Test.YtpmmpdkeahmdiaaRefSyn
import Derived.Test.YtpmmpdkeahmdiaaCrashKeep
namespace Go.Proofs.Ytpmmpdkeahmdiaa
open Go.RowKit
set_option maxRecDepth 100000

theorem crashS_cons (ps : List Int) (s : Sec) (r : List Sec) : crashS ps (s :: r) = (if s.fresh = [] then [s] else crashSec (ps.headD 0) s) ++ crashS (if s.fresh = [] then ps else ps.tail) r := by
  rw [crashS]; split <;> simp
structure CrR (P : Nat → Prop) (w : World) (r : RD) (l : Value) (ps : List Int) (S : List Sec) (v6 v7 : Value) (wr : World) (i u : Nat) (acc : List RX) (lv : Value) : Prop where
  e6 : v6 = .int .i64 u
  e7 : v7 = .int .i64 i
  hi : i ≤ S.length
  hu : u ≤ i
  own : SecOwn (w.heap.size + 3) wr lv acc
  eq : acc.map RX.s ++ (crashS (ps.drop u) (S.drop i)).map toRS = (crashS ps S).map toRS
  len : acc.length ≤ i
  ok : ∀ x ∈ acc, x.ok P w ∨ NewStr (w.heap.size + 3) wr x
  dk : DskAt wr w.heap.size r l
  rk : DskAt wr (w.heap.size + 1) rd0 (.slice none 0 0)
  ck : DskAt wr (w.heap.size + 2) { rd0 with room := r.room + ((i : Int) - acc.length) } lv
  below : Below w.heap.size w wr
theorem CrR.next {P : Nat → Prop} {w : World} {r : RD} {l : Value} {ps : List Int} {S : List Sec} {v6 v7 v6' v7' : Value} {wr wr' : World} {i u : Nat} {acc : List RX} {lv lv' : Value} (h : CrR P w r l ps S v6 v7 wr i u acc lv) {s : Sec} (hs : S[i]? = some s) (Y : List RX)
    (hY : Y.map RX.s = (if s.fresh = [] then [s] else crashSec ((ps.drop u).headD 0) s).map toRS) (hYl : Y.length ≤ 1) (e6 : v6' = .int .i64 ((if s.fresh = [] then u else u + 1 : Nat) : Int)) (e7 : v7' = .int .i64 ((i : Int) + 1))
    (hown : SecOwn (w.heap.size + 3) wr' lv' (acc ++ Y)) (hok : ∀ y ∈ Y, y.ok P w ∨ NewStr (w.heap.size + 3) wr' y) (hst : ∀ k : Nat, (∃ C, wr.heap[k]? = some (.cells C 9 (0, 0))) → wr'.heap[k]? = wr.heap[k]?) (hb : Below (w.heap.size + 2) wr wr')
    (hck : DskAt wr' (w.heap.size + 2) { rd0 with room := r.room + ((i : Int) + 1 - (acc ++ Y).length) } lv') : ∃ i' u' acc' lv'', CrR P w r l ps S v6' v7' wr' i' u' acc' lv'' := by
  have hin := (List.getElem?_eq_some_iff.1 hs).1
  have hid : S.drop i = s :: S.drop (i + 1) := by
    rw [List.drop_eq_getElem_cons hin]
    congr 1
    exact Option.some.inj ((List.getElem?_eq_getElem hin).symm.trans hs)
  have hl := h.len
  have hu := h.hu
  refine ⟨i + 1, _, acc ++ Y, lv', e6, by rw [e7]; rfl, hin, ?_, hown, ?_, ?_, fun x hx => ?_, h.dk.below (by omega) hb, h.rk.below (by omega) hb, by simpa using hck, h.below.trans (hb.mono (by omega))⟩
  · split <;> omega
  · have HE := h.eq
    rw [hid, crashS_cons, List.map_append, ← hY, ← List.append_assoc, ← List.map_append] at HE
    rw [← HE]
    congr 3
    split
    · rfl
    · rw [List.tail_drop]
  · rw [List.length_append]; omega
  · rcases List.mem_append.1 hx with hx | hx
    · exact (h.ok x hx).imp id (fun q => q.same hst)
    · exact hok x hx
theorem dsk_str {w : World} {b : Nat} {r : RD} {l : Value} (h : DskAt w b r l) (p : Nat) (v : Value) : ∀ k : Nat, (∃ C, w.heap[k]? = some (.cells C 9 (0, 0))) → (w.setCell ⟨b, p, none⟩ v).heap[k]? = w.heap[k]? := by
  rintro k ⟨C, hC⟩
  refine Below.heap_setCell _ _ _ _ fun e => ?_
  subst e
  unfold DskAt at h
  rw [hC] at h
  simp at h
theorem own_set {B b p : Nat} {w : World} {v u : Value} {A : List RX} (h : SecOwn B w v A) (hb : b < B) : SecOwn B (w.setCell ⟨b, p, none⟩ u) v A := by
  obtain ⟨g1, g2 | ⟨g, gc, cur, e, k1, k2, k3⟩⟩ := h
  · exact ⟨g1, .inl g2⟩
  · exact ⟨g1, .inr ⟨g, gc, cur, e, k1, (Below.heap_setCell _ _ _ _ (by show g ≠ b; omega)).trans k2, k3⟩⟩
/-- A sector more: W: ahead of the append; w': behind it. -/
theorem CrR.add {P : Nat → Prop} {w : World} {r : RD} {l : Value} {ps : List Int} {S : List Sec} {v6 v7 v6' v7' : Value} {wr W w' : World} {i u : Nat} {acc : List RX} {lv v' : Value} (h : CrR P w r l ps S v6 v7 wr i u acc lv) {s : Sec} (hs : S[i]? = some s) (y : RX)
    (hY : [y.s] = (if s.fresh = [] then [s] else crashSec ((ps.drop u).headD 0) s).map toRS) (e6 : v6' = .int .i64 ((if s.fresh = [] then u else u + 1 : Nat) : Int)) (e7 : v7' = .int .i64 ((i : Int) + 1))
    (hW : Below wr.heap.size wr W) (ho : SecOwn (w.heap.size + 3) w' v' (acc ++ [y])) (hb : Below (w.heap.size + 3) W w') (hk : ∀ k, k < W.heap.size → lv.ownBlock ≠ some k → w'.heap[k]? = W.heap[k]?) (hok : y.ok P w ∨ NewStr (w.heap.size + 3) w' y) :
    ∃ i' u' acc' lv'', CrR P w r l ps S v6' v7' (w'.setCell ⟨w.heap.size + 1 + 1, 5, none⟩ v') i' u' acc' lv'' := by
  have hlt := h.ck.lt
  have hb3 : Below (w.heap.size + 3) wr w' := (hW.mono (by omega)).trans hb
  have hck : DskAt w' (w.heap.size + 2) { rd0 with room := r.room + ((i : Int) - acc.length) } lv := h.ck.below (by omega) hb3
  have hstr : ∀ k : Nat, (∃ C, wr.heap[k]? = some (.cells C 9 (0, 0))) → w'.heap[k]? = wr.heap[k]? := by
    rintro k ⟨C, hC⟩
    have hkl := (Array.getElem?_eq_some_iff.1 hC).1
    have e := hW.block k hkl
    exact (own_strs (h.own.below hW) hk k ⟨C, e.trans hC⟩).trans e
  refine h.next hs [y] (by simpa using hY) (Nat.le_refl _) e6 e7 (own_set ho (by omega)) (fun z hz => ?_) (fun k hk' => ?_) ((hb3.mono (by omega)).setCell (by show w.heap.size + 2 ≤ w.heap.size + 2; omega) _) ?_
  · rw [List.mem_singleton.1 hz]
    exact hok.imp id fun q => q.same (dsk_str hck 5 v')
  · obtain ⟨C, hC⟩ := hk'
    have e := hstr k ⟨C, hC⟩
    exact (dsk_str hck 5 v' k ⟨C, e.trans hC⟩).trans e
  · have := set_cell hck 5 v'
    have e3 : (i : Int) + 1 - ((acc ++ [y]).length : Int) = (i : Int) - acc.length := by simp; omega
    rw [e3]
    exact this
theorem CrR.hole {P : Nat → Prop} {w : World} {r : RD} {l : Value} {ps : List Int} {S : List Sec} {v6 v7 v6' v7' : Value} {wr W : World} {i u : Nat} {acc : List RX} {lv : Value} (h : CrR P w r l ps S v6 v7 wr i u acc lv) {s : Sec} (hs : S[i]? = some s)
    (hY : [] = (if s.fresh = [] then [s] else crashSec ((ps.drop u).headD 0) s).map toRS) (e6 : v6' = .int .i64 ((if s.fresh = [] then u else u + 1 : Nat) : Int)) (e7 : v7' = .int .i64 ((i : Int) + 1))
    (hW : Below wr.heap.size wr W) (rm : Int) (hrm : r.room + ((i : Int) - (acc.length : Int)) = rm) :
    ∃ i' u' acc' lv'', CrR P w r l ps S v6' v7' (W.setCell ⟨w.heap.size + 1 + 1, 0, none⟩ (.int .i64 (rm + 1))) i' u' acc' lv'' := by
  have hlt := h.ck.lt
  have hck : DskAt W (w.heap.size + 2) { rd0 with room := r.room + ((i : Int) - acc.length) } lv := h.ck.below hlt hW
  refine h.next (lv' := lv) hs [] (by simpa using hY) (Nat.zero_le _) e6 e7 (by rw [List.append_nil]; exact own_set (h.own.below hW) (by omega)) (fun z hz => (by cases hz)) (fun k hk' => ?_) ((hW.mono (by omega)).setCell (by show w.heap.size + 2 ≤ w.heap.size + 2; omega) _) ?_
  · obtain ⟨C, hC⟩ := hk'
    have e := hW.block k (Array.getElem?_eq_some_iff.1 hC).1
    exact (dsk_str hck 0 _ k ⟨C, e.trans hC⟩).trans e
  · have := set_cell hck 0 (.int .i64 (rm + 1))
    have e3 : r.room + ((i : Int) + 1 - ((acc ++ ([] : List RX)).length : Int)) = rm + 1 := by simp; omega
    rw [e3]
    exact this
/-- What the reference picks. -/
def allV (s : Sec) : List (List Nat) := s.last.getD [] :: s.fresh
theorem allV_sy {s : Sec} {v : List Nat} (h : s.last = some v) : allV s = (toRS s).vs := by simp [allV, toRS, h]
theorem allV_not {s : Sec} (h : s.last = none) : allV s = [] :: (toRS s).vs := by simp [allV, toRS, h]
theorem allV_pick {s : Sec} {p : Int} {q : Nat} (hq : pickN p s.fresh.length = q) : (allV s)[q]? = some ((cvOf p s.last s.fresh).getD []) := by
  have hlt : q ≤ s.fresh.length := by
    rw [← hq, pickN]
    have := Nat.mod_lt (max p 0).toNat (show 0 < s.fresh.length + 1 by omega)
    omega
  unfold cvOf allV
  rw [hq]
  cases q with
  | zero => simp
  | succ k =>
    simp only [Nat.add_eq_zero_iff, Nat.succ_ne_self, and_false, if_false, List.getElem?_cons_succ, Nat.add_sub_cancel]
    rw [List.getElem?_eq_getElem (by omega)]
    rfl
end Go.Proofs.Ytpmmpdkeahmdiaa
