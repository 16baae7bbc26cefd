/- Texts that were written apart, joined. -/
import Derived.Test.YtpmmpdkeahmdiaaRefPut
import Derived.Test.YtpmmpdkeahmdiaaRefAll
/- Rows of strings that a call has made. -/
namespace Go.Proofs.Ytpmmpdkeahmdiaa
open Go.RowKit
set_option maxRecDepth 100000

def strVals (vs : List (List Nat)) : List Value := vs.map fun u => .string (strB u)
def StrOwn (B : Nat) (w : World) (v : Value) (vs : List (List Nat)) : Prop := w.ownsRow B 9 1 v vs.length (strVals vs)
theorem info_str : (Try.prog.info? 9).map (fun i => (i.zero, i.size, i.bytes)) = some (some (.string (ByteArray.mk #[])), 1, 16) := by kernel_rfl
theorem StrOwn.below {B : Nat} {w w' : World} {v : Value} {vs : List (List Nat)} (h : StrOwn B w v vs) (hb : Below w.heap.size w w') : StrOwn B w' v vs := by
  obtain ⟨hl, hn | ⟨g, cap, cur, rfl, h1, hg, h2⟩⟩ := h
  · exact ⟨hl, .inl hn⟩
  · exact ⟨hl, .inr ⟨g, cap, cur, rfl, h1, (hb.block g (Array.getElem?_eq_some_iff.1 hg).1).trans hg, h2⟩⟩
theorem StrOwn.alloc {B : Nat} {w : World} {v : Value} {vs : List (List Nat)} (h : StrOwn B w v vs) (o : Obj) : StrOwn B (w.alloc o) v vs := h.below ((Below.refl _ w).alloc (Nat.le_refl _) o)
theorem StrOwn.shape {B : Nat} {w : World} {v : Value} {vs : List (List Nat)} (h : StrOwn B w v vs) : ∃ ad cap, v = .slice ad vs.length cap := by
  obtain ⟨hl, ⟨e, h0⟩ | ⟨g, cap, cur, rfl, _⟩⟩ := h
  · exact ⟨none, 0, by rw [e, h0]⟩
  · exact ⟨_, cap, rfl⟩
theorem StrOwn.shape2 {B : Nat} {w : World} {v : Value} {vs : List (List Nat)} (h : StrOwn B w v vs) : ∃ (ad : Option Addr) (n c : Nat), vs.length = n ∧ v = .slice ad n c := by
  obtain ⟨ad, c, e⟩ := h.shape
  exact ⟨ad, _, c, rfl, e⟩
theorem StrOwn.strs {P : Nat → Prop} {B : Nat} {w : World} {v : Value} {vs : List (List Nat)} (h : StrOwn B w v vs) (hP : ∀ b, B ≤ b → P b) (hne : vs ≠ []) : StrsAt P w v vs := by
  obtain ⟨hl, ⟨e, h0⟩ | ⟨g, cap, cur, rfl, h1, hg, h2, h3, h4, h5⟩⟩ := h
  · exact absurd (List.eq_nil_of_length_eq_zero h0) hne
  · refine ⟨g, cap, rfl, hP g h1, (Array.getElem?_eq_some_iff.1 hg).1, fun j u hj => ?_⟩
    have e : (strVals vs)[j]? = some (.string (strB u)) := by rw [strVals, List.getElem?_map, hj]; rfl
    rw [← h5, List.getElem?_take] at e
    split at e
    · simpa [World.cell?, hg] using e
    · cases e
theorem strs_none (B : Nat) (w : World) (hB : B ≤ w.heap.size) : StrOwn B (w.alloc (Obj.cells #[] 9)) (.slice (some ⟨w.heap.size, 0, none⟩) 0 0) [] := World.ownsRow_lit w #[] 0 hB (by decide) rfl
theorem strs_one (B : Nat) (w : World) (hB : B ≤ w.heap.size) (u : List Nat) : StrOwn B (w.alloc (Obj.cells #[.string (strB u)] 9)) (.slice (some ⟨w.heap.size, 0, none⟩) 1 1) [u] := World.ownsRow_lit w #[.string (strB u)] 1 hB (by decide) rfl
/-- Strings that are read: none, or as they lie. -/
def StrsIn (w : World) (v : Value) (vs : List (List Nat)) : Prop := (v = .slice none 0 0 ∧ vs = []) ∨ StrsAt (fun _ => True) w v vs
/-- 'append(p, q...)' where the call has made p. -/
theorem append_strs {w : World} {ops : Array Oper} {rest : List Oper} {o : Oper} {a : Act} {Q : Exit → Act → World → Prop} (hgd : o.guard = none) (s x : Operand)
    (ho : o.op = .call { callee := .builtin .append, args := #[s, x], argTypes := #[93, 93] }) (B : Nat) (v v2 : Value) (us vs : List (List Nat))
    (hs : a.eval s = v) (hown : StrOwn B w v us) (hx : a.eval x = v2) (hsrc : StrsIn w v2 vs) (hl : us.length + vs.length ≤ 4398046511104) (hB : B ≤ w.heap.size)
    (h : ∀ v' w', StrOwn B w' v' (us ++ vs) → Below B w w' → wpList Try.prog ops Q rest (a.put o.dst v') w') : wpList Try.prog ops Q (o :: rest) a w := by
  obtain ⟨i0, hi, hz0, hz1, hz2⟩ := info_parts info_str
  rcases hsrc with ⟨rfl, rfl⟩ | ⟨g, c, rfl, _, hg, hc⟩
  · refine wpList_step fun K hK => ?_
    rw [if_pos (by simp [Region.wanted, hgd])]
    have hrun := run_append_owned_none (P := Try.prog) (w := w) B 93 o.type 9 i0 1 Try.underlying93 hi v us.length (strVals us) hown
    unfold Oper.wp
    simp [execOp, ho, resolve, invoke, builtin, hs, hx, hrun, Result.andThen]
    exact hK _ _ (h _ _ (by simpa using hown) (Below.refl _ _))
  · refine wpList_append_own w hgd s x 93 ho B 9 i0 _ 1 16 Try.underlying93 hi hz0 hz1 hz2 rfl (by decide) v us.length _ hs hown ⟨g, 0, none⟩ vs.length c (strVals vs) hx (by simp [strVals]) ?_ ?_ (by unfold maxLen; omega) (by omega) hB ?_
    · intro j u hj
      have hadd : ∀ j, (⟨g, 0, none⟩ : Addr).add j = ⟨g, 0 + j, none⟩ := fun j => by unfold Addr.add; split <;> simp_all
      rw [strVals, List.getElem?_map] at hj
      obtain ⟨z, hz, rfl⟩ := Option.map_eq_some_iff.1 hj
      rw [hadd, Nat.zero_add]
      exact hc j z hz
    · intro u hu
      obtain ⟨z, _, rfl⟩ := List.mem_map.1 hu
      rfl
    · intro v' w' h5 h6 _
      refine h v' w' ?_ ((Below.refl B w).grown h6 hB (fun k hk => (World.ownsRow.lt hown k hk).1))
      unfold StrOwn
      rw [List.length_append, strVals, List.map_append]
      exact h5
end Go.Proofs.Ytpmmpdkeahmdiaa

/- The reference of the disk: bytes as a sector's; where a sector stands, in a row of sectors. -/
namespace Go.Proofs.Ytpmmpdkeahmdiaa
open Go.RowKit
set_option maxRecDepth 100000

theorem one_row (w : World) (z : Int) (n : Nat) (hz : z = n) : Row (w.heap.size + 1) (w.alloc (Obj.cells #[.int .u8 z] 5)) (.slice (some ⟨w.heap.size, 0, none⟩) 1 1) [n] := by
  subst hz
  exact ⟨_, _, rfl, by simp, fun h => by (cases h), fun _ => ⟨_, _, rfl, by omega, fun i hi => by
    obtain rfl : i = 0 := by simpa using hi
    simp⟩⟩
theorem own_alloc {B : Nat} {w : World} {v : Value} {xs : List Nat} (h : Bytes B w v xs) (o : Obj) : Bytes B (w.alloc o) v xs := h.below ((Below.refl _ _).alloc (Nat.le_refl _) o)
theorem own_none (B : Nat) (w : World) (hB : B ≤ w.heap.size) : Bytes B (w.alloc (Obj.cells #[] 5)) (.slice (some ⟨w.heap.size, 0, none⟩) 0 0) [] := World.ownsRow_lit w #[] 0 hB (by decide) rfl
set_option maxHeartbeats 2000000 in
theorem refWhole_any (N : Nat) (y : Value) (xs : List Nat) (w : World) (hr : Row N w y xs) (hN : N ≤ w.heap.size) (hl : xs.length ≤ 64) :
    Calls Try.prog 74 #[y] w fun e w' => e = .returned (.string (strB (pad xs))) ∧ Below w.heap.size w w' := by
  have HR : Hid (∀ o, Row N (w.alloc o) y xs) := fun o => hr.below ((Below.refl _ _).alloc hN o)
  have HN := own_none w.heap.size w (Nat.le_refl _)
  obtain ⟨ao, cap, rfl, _⟩ := hr.shape
  clear hr
  go_enter Try.func74, Try.ntmps74
  go_wp2_with (at_builtin; refine append_row (by rfl) _ _ rfl w.heap.size N _ _ [] xs rfl HN rfl (HR.out _) (by simp; omega) (by simp) ?_)
  intro v1 w1 ho1 hb1 _
  have HB1 : Hid (Below w.heap.size w w1) := ((Below.refl _ w).alloc (Nat.le_refl _) _).trans hb1
  have HO1 : Hid (Bytes w.heap.size w1 v1 xs) := ho1
  clear ho1 hb1 HN
  go_wp2
  go_loopw [3] (fun v wr => ∃ k : Nat, xs.length + k ≤ 64 ∧ Bytes w.heap.size wr v (xs ++ List.replicate k 0) ∧ Below w.heap.size w wr) (fun v _ => 64 - (match v with | .slice _ n _ => n | _ => 0))
  case atStart => exact ⟨0, by omega, by simpa using HO1.out, HB1.out⟩
  case round =>
    clear HO1 HB1
    obtain ⟨k, hk, ho, hb⟩ := hrel
    have HO : Hid (Bytes w.heap.size wr _ (xs ++ List.replicate k 0)) := ho
    have HB : Hid (Below w.heap.size w wr) := hb
    have hs := hb.size
    obtain ⟨av, cv, rfl, _⟩ := ho.row.shape
    have hlen : (xs ++ List.replicate k 0).length = xs.length + k := by simp
    rw [hlen] at HO ⊢
    clear ho hb hlen
    by_cases h : xs.length + k < 64
    · have hi : ((xs.length + k : Nat) : Int) < 64 := by omega
      go_wp2_with (at_builtin; refine append_row (by rfl) _ _ rfl w.heap.size (wr.heap.size + 1) _ _ (xs ++ List.replicate k 0) [0] rfl (own_alloc HO.out _) rfl (one_row _ _ _ rfl) (by simp; omega) (by simp; omega) ?_)
      intro v2 w2 ho2 hb2 _
      have e : xs ++ (List.replicate k 0 ++ [0]) = xs ++ List.replicate (k + 1) 0 := by rw [List.replicate_succ']
      rw [e] at ho2
      have hb3 : Below w.heap.size w w2 := (HB.out.alloc hs _).trans hb2
      obtain ⟨av2, cv2, rfl, _⟩ := ho2.row.shape
      have hlen : (xs ++ List.replicate (k + 1) 0).length = xs.length + k + 1 := by simp; omega
      have HO2 : Hid (Bytes w.heap.size w2 (.slice av2 (xs ++ List.replicate (k + 1) 0).length cv2) (xs ++ List.replicate (k + 1) 0)) := ho2
      have HB3 : Hid (Below w.heap.size w w2) := hb3
      clear ho2 hb2 hb3 e
      go_wp2
      go_roundw
      case rel => exact ⟨k + 1, by omega, HO2.out, HB3.out⟩
      case measure => rw [hlen]; simp only; omega
    · have hi : ¬ ((xs.length + k : Nat) : Int) < 64 := by omega
      have hcv : (convert 36 9 (.slice av (xs.length + k) cv)).run Try.prog wr = .ok (.string (strB (pad xs))) wr := by
        have hk2 : k = 64 - xs.length := by omega
        rw [HO.out.row.str, pad, hk2]
      go_wp2
      go_ret
      exact ⟨rfl, HB.out⟩
theorem refAt_nil (r : RD) (ad : Option Addr) (c : Nat) (a m : Int) (w : World) :
    Calls Try.prog 63 #[rdV r (.slice ad 0 c), .int .u64 a, .int .i64 m] w fun e w' => e = .returned (.int .i64 (-1)) ∧ Below w.heap.size w w' := by
  unfold rdV
  go_enter Try.func63, Try.ntmps63
  go_wp2
  refine wp_loop_rounds 1 ?_
  rw [rounds_succ]
  go_wp2
  go_ret
  exact ⟨by simp, (Below.refl _ w).alloc (Nat.le_refl _) _⟩
theorem refAt_sec {P : Nat → Prop} (r : RD) (l : Value) (X : List RX) (a m : Int) (w : World) (h : SecRow P w l X) :
    Calls Try.prog 63 #[rdV r l, .int .u64 a, .int .i64 m] w fun e w' => (∃ k : Int, e = .returned (.int .i64 k) ∧ ((∃ (i : Nat) (x : RX), k = i ∧ X[i]? = some x ∧ x.s.area = a ∧ x.s.n = m) ∨ (k = -1 ∧ ∀ x ∈ X, ¬ (x.s.area = a ∧ x.s.n = m)))) ∧ Below w.heap.size w w' := by
  obtain ⟨ad, cap, rfl, hl, hc, _⟩ := h
  rcases Nat.eq_zero_or_pos X.length with h0 | h0
  · rw [h0]
    refine (refAt_nil r ad cap a m w).mono ?_
    rintro e w' ⟨rfl, hb⟩
    refine ⟨⟨-1, rfl, .inr ⟨rfl, fun x hx => ?_⟩⟩, hb⟩
    rw [List.eq_nil_of_length_eq_zero h0] at hx
    cases hx
  · obtain ⟨g, rfl, _, hg, hx⟩ := hc h0
    have hget : ∀ i, i < X.length → ∃ x, X[i]? = some x := fun i hi => ⟨_, List.getElem?_eq_getElem hi⟩
    refine (refAt_any r g X.length cap (fun i => ((X[i]?).map (·.s.area)).getD 0) (fun i => ((X[i]?).map (·.s.n)).getD 0) a m w hg (by omega) (fun i hi => ?_) (fun i hi => ?_)).mono ?_
    · obtain ⟨x, e⟩ := hget i hi
      rw [e]
      exact (hx i x e).c0
    · obtain ⟨x, e⟩ := hget i hi
      rw [e]
      exact (hx i x e).c1
    · rintro e w' ⟨⟨k, rfl, hk⟩, hb⟩
      refine ⟨⟨k, rfl, ?_⟩, hb⟩
      rcases hk with ⟨i, hi, rfl, h1, h2, _⟩ | ⟨rfl, h1⟩
      · obtain ⟨x, e⟩ := hget i hi
        simp only [e, Option.map_some, Option.getD_some] at h1 h2
        exact .inl ⟨i, x, rfl, e, h1, h2⟩
      · refine .inr ⟨rfl, fun x hx hh => ?_⟩
        obtain ⟨i, hi, e⟩ := List.getElem_of_mem hx
        have e2 : X[i]? = some x := by rw [List.getElem?_eq_getElem hi, e]
        have := h1 i hi
        simp only [e2, Option.map_some, Option.getD_some] at this
        exact this hh
end Go.Proofs.Ytpmmpdkeahmdiaa

/- The reference's disks, loaded and stored whole. -/
namespace Go.Proofs.Ytpmmpdkeahmdiaa
open Go.RowKit
set_option maxRecDepth 100000

def rdC (r : RD) (l : Value) : Array Value := #[.int .i64 r.room, .int .i64 r.steps, .int .i64 r.left, .bool r.armed, .bool r.dead, l]
def rd0 : RD := ⟨0, 0, 0, false, false⟩
/-- A disk of the reference in a block of its own. -/
def DskAt (w : World) (b : Nat) (r : RD) (l : Value) : Prop := w.heap[b]? = some (.cells (rdC r l) 27 (0, 0))
def loadD (P : Program) (x : Value) (w : World) : Result Value := (Instr.loadAt 27 x).run P w
def storeD (P : Program) (x y : Value) (w : World) : Result Unit := (Instr.storeAt 27 x y).run P w
def setD (w : World) (b : Nat) (r : RD) (l : Value) : World := six w b (.int .i64 r.room) (.int .i64 r.steps) (.int .i64 r.left) (.bool r.armed) (.bool r.dead) l
def dCells (v : Value) : Array Value := v.cells
theorem rdV_cells (r : RD) (l : Value) : dCells (rdV r l) = rdC r l := rfl
theorem rdC_0 (r : RD) (l : Value) : (rdC r l)[0]? = some (.int .i64 r.room) := rfl
theorem rdC_1 (r : RD) (l : Value) : (rdC r l)[1]? = some (.int .i64 r.steps) := rfl
theorem rdC_2 (r : RD) (l : Value) : (rdC r l)[2]? = some (.int .i64 r.left) := rfl
theorem rdC_3 (r : RD) (l : Value) : (rdC r l)[3]? = some (.bool r.armed) := rfl
theorem rdC_4 (r : RD) (l : Value) : (rdC r l)[4]? = some (.bool r.dead) := rfl
theorem rdC_5 (r : RD) (l : Value) : (rdC r l)[5]? = some l := rfl
theorem exec_alloc_D (ρ : Operand → Value) (dst : Option Tmp) (ty : TypeId) (pos : String) (af : Array Edge) (g : Option (Nat × Bool)) (w : World) :
    (execOp ρ ⟨dst, .alloc 27, ty, pos, af, g⟩).run Try.prog w = .ok (.value (.pointer (some ⟨w.heap.size, 0, none⟩))) (w.alloc (.cells (rdC rd0 (.slice none 0 0)) 27)) := by
  simp [execOp, go_sem, rdC, rd0]
  try rfl
theorem exec_box_D (ρ : Operand → Value) (x : Operand) (dst : Option Tmp) (ty : TypeId) (pos : String) (af : Array Edge) (g : Option (Nat × Bool)) (w : World) :
    (execOp ρ ⟨dst, .box 27 x, ty, pos, af, g⟩).run Try.prog w = .ok (.value (.pointer (some ⟨w.heap.size, 0, none⟩))) (w.alloc (.cells (dCells (ρ x)) 27)) := by
  simp only [execOp, Sem.run_bind, Instr.box, newVar, newRow]
  rfl
theorem exec_load_D (ρ : Operand → Value) (x : Operand) (dst : Option Tmp) (ty : TypeId) (pos : String) (af : Array Edge) (g : Option (Nat × Bool)) (w : World) :
    (execOp ρ ⟨dst, .load 27 x, ty, pos, af, g⟩).run Try.prog w = (loadD Try.prog (ρ x) w).andThen (fun v w' => .ok (.value v) w') := by
  simp only [execOp, Sem.run_bind, loadD, Sem.run_pure]
theorem exec_store_D (ρ : Operand → Value) (x y : Operand) (dst : Option Tmp) (ty : TypeId) (pos : String) (af : Array Edge) (g : Option (Nat × Bool)) (w : World) :
    (execOp ρ ⟨dst, .store 27 x y, ty, pos, af, g⟩).run Try.prog w = (storeD Try.prog (ρ x) (ρ y) w).andThen (fun _ w' => .ok .skip w') := by
  simp only [execOp, Sem.run_bind, storeD, Sem.run_pure]
theorem DskAt.cells {w : World} {b : Nat} {r : RD} {l : Value} (h : DskAt w b r l) :
    w.cell? ⟨b, 0, none⟩ = some (.int .i64 r.room) ∧ w.cell? ⟨b, 1, none⟩ = some (.int .i64 r.steps) ∧ w.cell? ⟨b, 2, none⟩ = some (.int .i64 r.left) ∧ w.cell? ⟨b, 3, none⟩ = some (.bool r.armed) ∧ w.cell? ⟨b, 4, none⟩ = some (.bool r.dead) ∧ w.cell? ⟨b, 5, none⟩ = some l ∧ (∀ o, w.frozen? ⟨b, o, none⟩ = false) := six_cells h
theorem DskAt.lt {w : World} {b : Nat} {r : RD} {l : Value} (h : DskAt w b r l) : b < w.heap.size := (Array.getElem?_eq_some_iff.1 h).1
theorem DskAt.below {w w' : World} {b : Nat} {r : RD} {l : Value} (h : DskAt w b r l) {B : Nat} (hB : b < B) (hb : Below B w w') : DskAt w' b r l := (hb.block b hB).trans h
theorem DskAt.new (w : World) (r : RD) (l : Value) : DskAt (w.alloc (.cells (rdC r l) 27)) w.heap.size r l := alloc_new _ _
theorem DskAt.old {w : World} {b : Nat} {r : RD} {l : Value} (h : DskAt w b r l) (o : Obj) : DskAt (w.alloc o) b r l := (alloc_old w o h.lt).trans h
theorem DskAt.far {w : World} {b b' : Nat} {r r' : RD} {l l' : Value} (h : DskAt w b r l) (hne : b ≠ b') : DskAt (setD w b' r' l') b r l := (six_far w b' b hne _ _ _ _ _ _).trans h
theorem DskAt.set {w : World} {b : Nat} {r r' : RD} {l l' : Value} (h : DskAt w b r l) : DskAt (setD w b r' l') b r' l' := six_set h _ _ _ _ _ _
theorem setD_far (w : World) (b k : Nat) (r : RD) (l : Value) (hne : k ≠ b) : (setD w b r l).heap[k]? = w.heap[k]? := six_far w b k hne _ _ _ _ _ _
theorem setD_size (w : World) (b : Nat) (r : RD) (l : Value) : (setD w b r l).heap.size = w.heap.size := by simp [setD, six]
theorem setD_below {B : Nat} {a w : World} (h : Below B a w) {b : Nat} (hb : B ≤ b) (r : RD) (l : Value) : Below B a (setD w b r l) := six_below h hb _ _ _ _ _ _
theorem loadD_at {w : World} {b : Nat} {r : RD} {ad : Option Addr} {n c : Nat} (h : DskAt w b r (.slice ad n c)) : loadD Try.prog (.pointer (some ⟨b, 0, none⟩)) w = .ok (rdV r (.slice ad n c)) w := by
  obtain ⟨c0, c1, c2, c3, c4, c5, _⟩ := h.cells
  unfold loadD rdV
  simp [go_sem, c0, c1, c2, c3, c4, c5]
  try rfl
theorem storeD_at {w : World} {b : Nat} {r0 r : RD} {l0 : Value} {ad : Option Addr} {n c : Nat} (h : DskAt w b r0 l0) : storeD Try.prog (.pointer (some ⟨b, 0, none⟩)) (rdV r (.slice ad n c)) w = .ok () (setD w b r (.slice ad n c)) := by
  obtain ⟨c0, c1, c2, c3, c4, c5, cz⟩ := h.cells
  unfold storeD rdV setD six
  simp [go_sem, c0, c1, c2, c3, c4, c5, cz]
  try rfl
theorem retD {fn : Func} {R : Ending → World → Prop} {a : Act} {w : World} {b t : Nat} {r : RD} {ad : Option Addr} {n c : Nat} (hf : fn.results = #[.cell t 27]) (ht : a.tmps[t]? = some (.pointer (some ⟨b, 0, none⟩)))
    (hb : DskAt w b r (.slice ad n c)) (hd : a.defers = []) (hR : R (.returned (rdV r (.slice ad n c))) w) : bodyPost Try.prog fn R .ret a w := ret_disk hf ht hb hd hR
theorem retD2 {fn : Func} {R : Ending → World → Prop} {a : Act} {w : World} {b t u : Nat} {r : RD} {ad : Option Addr} {n c : Nat} {x : Value} (hf : fn.results = #[.cell t 27, .tmp u]) (ht : a.tmps[t]? = some (.pointer (some ⟨b, 0, none⟩))) (hu : a.tmps[u]? = some x)
    (hb : DskAt w b r (.slice ad n c)) (hd : a.defers = []) (hR : R (.returned (.tuple #[rdV r (.slice ad n c), x])) w) : bodyPost Try.prog fn R .ret a w := ret_disk2 hf ht hu hb hd hR
end Go.Proofs.Ytpmmpdkeahmdiaa

/- The reference of the disk: Write, where nothing is written. -/
namespace Go.Proofs.Ytpmmpdkeahmdiaa
open Go.RowKit
set_option maxRecDepth 100000

def WrSays (P : Nat → Prop) (r : RD) (X : List RX) (a n : Int) (xs : List Nat) (w : World) (e : Ending) (w' : World) : Prop :=
  ∃ r' l' X' c, e = .returned (.tuple #[rdV r' l', .int .i64 c]) ∧ SecRow (fun b => P b ∨ w.heap.size ≤ b) w' l' X' ∧ Below w.heap.size w w' ∧
    ((r.dead = true ∧ r' = r ∧ X' = X ∧ c = 30) ∨ (r.dead = false ∧ formBad n xs ∧ r' = r ∧ X' = X ∧ c = 31) ∨
     (r.dead = false ∧ ¬ formBad n xs ∧ (∀ x ∈ X, ¬ (x.s.area = a ∧ x.s.n = n)) ∧ r.room = 0 ∧ r' = r ∧ X' = X ∧ c = 32) ∨
     (r.dead = false ∧ ¬ formBad n xs ∧ (∀ x ∈ X, ¬ (x.s.area = a ∧ x.s.n = n)) ∧ r.room ≠ 0 ∧ r' = rdStep { r with room := r.room - 1 } ∧ (∃ lv, X' = putX ⟨⟨a, n, [pad xs], false⟩, lv⟩ false X) ∧ c = if rdDies r then 30 else 0) ∨
     (r.dead = false ∧ ¬ formBad n xs ∧ (∃ x ∈ X, x.s.area = a ∧ x.s.n = n ∧ r' = rdStep r ∧ (∃ lv, X' = putX ⟨⟨x.s.area, x.s.n, x.s.vs ++ [pad xs], x.s.sy⟩, lv⟩ false X)) ∧ c = if rdDies r then 30 else 0))
attribute [local go_sem ↓] exec_alloc_D exec_box_D exec_load_D exec_store_D
attribute [local go_sem] rdV_cells rdC_0 rdC_1 rdC_2 rdC_3 rdC_4 rdC_5
def two0 (w : World) (r : RD) (l : Value) : World := (w.alloc (.cells (rdC r l) 27)).alloc (.cells (rdC rd0 (.slice none 0 0)) 27)
theorem two0_at (w : World) (r : RD) (l : Value) : DskAt (two0 w r l) w.heap.size r l ∧ DskAt (two0 w r l) (w.heap.size + 1) rd0 (.slice none 0 0) ∧ Below w.heap.size w (two0 w r l) ∧ (two0 w r l).heap.size = w.heap.size + 2 := by
  refine ⟨(DskAt.new w r l).old _, ?_, ((Below.refl _ w).alloc (Nat.le_refl _) _).alloc (by simp) _, by simp [two0]⟩
  have := DskAt.new (w.alloc (.cells (rdC r l) 27)) rd0 (.slice none 0 0)
  rwa [alloc_size] at this
set_option maxHeartbeats 2000000 in
theorem refWrite_dead (P : Nat → Prop) (r : RD) (l : Value) (X : List RX) (a n : Int) (y : Value) (xs : List Nat) (w : World) (hX : SecRow P w l X) (hd : r.dead = true) :
    Calls Try.prog 47 #[rdV r l, .int .u64 a, .int .i64 n, y] w (WrSays P r X a n xs w) := by
  obtain ⟨ad, cap, rfl, _⟩ := id hX
  obtain ⟨t1, t2, t3, t4⟩ := two0_at w r (.slice ad X.length cap)
  have hld := loadD_at t1
  have hst := storeD_at (r := r) (ad := ad) (n := X.length) (c := cap) t2
  have HE : Hid (WrSays P r X a n xs w (.returned (.tuple #[rdV r (.slice ad X.length cap), .int .i64 30])) (setD (two0 w r (.slice ad X.length cap)) (w.heap.size + 1) r (.slice ad X.length cap))) := by
    have hb := setD_below t3 (b := w.heap.size + 1) (by omega) r (.slice ad X.length cap)
    exact ⟨r, .slice ad X.length cap, X, 30, rfl, (hX.below hb).mono fun b _ h => .inl h, hb, .inl ⟨hd, rfl, rfl, rfl⟩⟩
  have HR : Hid (DskAt (setD (two0 w r (.slice ad X.length cap)) (w.heap.size + 1) r (.slice ad X.length cap)) (w.heap.size + 1) r (.slice ad X.length cap)) := t2.set
  clear hX t1 t2 t3 t4
  obtain ⟨w5, hw5⟩ : ∃ w5, setD (two0 w r (.slice ad X.length cap)) (w.heap.size + 1) r (.slice ad X.length cap) = w5 := ⟨_, rfl⟩
  rw [hw5] at hst HE HR
  clear hw5
  unfold two0 at hld hst
  go_enter Try.func47, Try.ntmps47
  go_wp2
  exact retD2 rfl rfl rfl HR.out rfl HE.out
set_option maxHeartbeats 2000000 in
theorem refWrite_form (P : Nat → Prop) (r : RD) (l : Value) (X : List RX) (a n : Int) (N : Nat) (y : Value) (xs : List Nat) (w : World) (hX : SecRow P w l X) (hr : Row N w y xs) (hd : r.dead = false) (hf : formBad n xs) (hl : xs.length ≤ 9223372036854775807) :
    Calls Try.prog 47 #[rdV r l, .int .u64 a, .int .i64 n, y] w (WrSays P r X a n xs w) := by
  obtain ⟨ad, cap, rfl, _⟩ := id hX
  obtain ⟨t1, t2, t3, t4⟩ := two0_at w r (.slice ad X.length cap)
  have hld := loadD_at t1
  have hst := storeD_at (r := r) (ad := ad) (n := X.length) (c := cap) t2
  have HE : Hid (WrSays P r X a n xs w (.returned (.tuple #[rdV r (.slice ad X.length cap), .int .i64 31])) (setD (two0 w r (.slice ad X.length cap)) (w.heap.size + 1) r (.slice ad X.length cap))) := by
    have hb := setD_below t3 (b := w.heap.size + 1) (by omega) r (.slice ad X.length cap)
    exact ⟨r, .slice ad X.length cap, X, 31, rfl, (hX.below hb).mono fun b _ h => .inl h, hb, .inr (.inl ⟨hd, hf, rfl, rfl, rfl⟩)⟩
  have HR : Hid (DskAt (setD (two0 w r (.slice ad X.length cap)) (w.heap.size + 1) r (.slice ad X.length cap)) (w.heap.size + 1) r (.slice ad X.length cap)) := t2.set
  obtain ⟨ao, yc, rfl, _⟩ := hr.shape
  clear hX t1 t2 t3 t4 hr
  obtain ⟨w5, hw5⟩ : ∃ w5, setD (two0 w r (.slice ad X.length cap)) (w.heap.size + 1) r (.slice ad X.length cap) = w5 := ⟨_, rfl⟩
  rw [hw5] at hst HE HR
  clear hw5
  unfold two0 at hld hst
  unfold formBad at hf
  by_cases h1 : n < 0
  · clear hf
    go_enter Try.func47, Try.ntmps47
    go_wp2
    exact retD2 rfl rfl rfl HR.out rfl HE.out
  · by_cases h2 : 65536 ≤ n
    · clear hf
      go_enter Try.func47, Try.ntmps47
      go_wp2
      exact retD2 rfl rfl rfl HR.out rfl HE.out
    · have h3 : (64 : Int) < (xs.length : Int) := by omega
      clear hf
      go_enter Try.func47, Try.ntmps47
      go_wp2
      exact retD2 rfl rfl rfl HR.out rfl HE.out
end Go.Proofs.Ytpmmpdkeahmdiaa

/- The reference of the disk: Write, the rest. -/
namespace Go.Proofs.Ytpmmpdkeahmdiaa
open Go.RowKit
set_option maxRecDepth 100000

/-- The blocks of a call of Write: the disk, the result, the sector. -/
structure WrAt (b : Nat) (r : RD) (l : Value) (a n : Int) (lv : Value) (sy : Bool) (w : World) : Prop where
  b0 : DskAt w b r l
  b1 : DskAt w (b + 1) rd0 (.slice none 0 0)
  b2 : w.heap[b + 1 + 1]? = some (.cells #[.int .u64 a, .int .i64 n, lv, .bool sy] 95 (0, 0))
theorem WrAt.below {b : Nat} {r : RD} {l : Value} {a n : Int} {lv : Value} {sy : Bool} {w w' : World} (h : WrAt b r l a n lv sy w) {B : Nat} (hB : b + 2 < B) (hb : Below B w w') : WrAt b r l a n lv sy w' :=
  ⟨h.b0.below (by omega) hb, h.b1.below (by omega) hb, (hb.block (b + 1 + 1) (by omega)).trans h.b2⟩
theorem WrAt.lt {b : Nat} {r : RD} {l : Value} {a n : Int} {lv : Value} {sy : Bool} {w : World} (h : WrAt b r l a n lv sy w) : b + 2 < w.heap.size := (Array.getElem?_eq_some_iff.1 h.b2).1
def wr3 (w : World) (r : RD) (l : Value) (a n : Int) : World :=
  ((w.alloc (.cells (rdC r l) 27)).alloc (.cells (rdC rd0 (.slice none 0 0)) 27)).alloc (.cells #[.int .u64 a, .int .i64 n, .slice none 0 0, .bool false] 95)
theorem wr3_at (w : World) (r : RD) (l : Value) (a n : Int) : WrAt w.heap.size r l a n (.slice none 0 0) false (wr3 w r l a n) ∧ Below w.heap.size w (wr3 w r l a n) ∧ (wr3 w r l a n).heap.size = w.heap.size + 3 := by
  obtain ⟨t1, t2, t3, t4⟩ := two0_at w r l
  refine ⟨⟨t1.old _, t2.old _, ?_⟩, t3.alloc (by omega) _, by simp [wr3]⟩
  have := alloc_new (two0 w r l) (.cells #[.int .u64 a, .int .i64 n, .slice none 0 0, .bool false] 95)
  rwa [t4] at this
attribute [local go_sem ↓] exec_alloc_D exec_box_D exec_load_D exec_store_D
attribute [local go_sem] rdV_cells rdC_0 rdC_1 rdC_2 rdC_3 rdC_4 rdC_5
set_option maxHeartbeats 3000000 in
theorem refWrite_rest (P : Nat → Prop) (r : RD) (l : Value) (X : List RX) (a n : Int) (N : Nat) (y : Value) (xs : List Nat) (w : World) (hX : SecRow P w l X) (hr : Row N w y xs) (hN : N ≤ w.heap.size) (hd : r.dead = false) (hf : ¬ formBad n xs) (hl : X.length < 1099511627776) (hv : ∀ x ∈ X, x.s.vs.length ≤ 1099511627777) (hr1 : 0 ≤ r.room) (hr2 : r.room ≤ 9223372036854775807) (h1 : 0 ≤ r.steps) (h2 : r.steps < 4611686018427387904) (h3 : -9223372036854775808 ≤ r.left) (h4 : r.left ≤ 9223372036854775807) (h5 : r.armed = true → 0 ≤ r.left) :
    Calls Try.prog 47 #[rdV r l, .int .u64 a, .int .i64 n, y] w (WrSays P r X a n xs w) := by
  obtain ⟨ad, cap, rfl, _⟩ := id hX
  have HX : Hid (SecRow P w (.slice ad X.length cap) X) := hX
  have HF : Hid (¬ formBad n xs) := hf
  have HR : Hid (Row N w y xs) := hr
  have HV : Hid (∀ x ∈ X, x.s.vs.length ≤ 1099511627777) := hv
  obtain ⟨W3A, W3B, W3S⟩ := wr3_at w r (.slice ad X.length cap) a n
  unfold formBad at hf
  have f1 : ¬ n < 0 := by omega
  have f2 : n < 65536 := by omega
  have f3 : ¬ (64 : Int) < (xs.length : Int) := by omega
  have hld3 := loadD_at W3A.b0
  obtain ⟨w3, hw3⟩ : ∃ w3, wr3 w r (.slice ad X.length cap) a n = w3 := ⟨_, rfl⟩
  unfold wr3 at hld3
  have H3A : Hid (WrAt w.heap.size r (.slice ad X.length cap) a n (.slice none 0 0) false w3) := hw3 ▸ W3A
  have H3B : Hid (Below w.heap.size w w3) := hw3 ▸ W3B
  rw [hw3] at W3S
  obtain ⟨ao, yc, rfl, _⟩ := hr.shape
  have HW3 : Hid (((w.alloc (.cells (rdC r (.slice ad X.length cap)) 27)).alloc (.cells (rdC rd0 (.slice none 0 0)) 27)).alloc (.cells #[.int .u64 a, .int .i64 n, .slice none 0 0, .bool false] 95) = w3) := hw3
  clear hX hr hf W3A W3B hw3 hv
  go_enter Try.func47, Try.ntmps47
  go_wp2_with fail
  rw [HW3.out]
  clear HW3 hld3
  refine (refAt_sec r (.slice ad X.length cap) X a n w3 (HX.out.below H3B.out)).mono ?_
  rintro e w4 ⟨⟨k, rfl, hk⟩, hb4⟩
  have hA4 := H3A.out.below (B := w.heap.size + 3) (by omega) (hb4.mono (by omega))
  have H4A : Hid (WrAt w.heap.size r (.slice ad X.length cap) a n (.slice none 0 0) false w4) := hA4
  have H4B : Hid (Below w.heap.size w w4) := H3B.out.trans (hb4.mono (by omega))
  have hs4 := hA4.lt
  obtain ⟨d0, d1, d2, d3, d4, d5, dz⟩ := hA4.b0.cells
  obtain ⟨s0, s1, s2, s3, sz⟩ := four_cells hA4.b2
  clear hA4 hb4 d1 d2 d3 d4 H3A H3B
  rcases hk with ⟨i, x, rfl, hx, xa, xn⟩ | ⟨rfl, hno⟩
  · have h0' : ¬ ((i : Int) < 0) := by omega
    have hil := (List.getElem?_eq_some_iff.1 hx).1
    obtain ⟨_, _, eX, _, hcs, hok⟩ := id HX.out
    obtain ⟨g, hg0, _, hg, hx4⟩ := hcs (by omega)
    simp only [Value.slice.injEq] at eX
    rw [← eX.1] at hg0
    subst hg0
    obtain ⟨x0, x1, x2, x3⟩ := (hx4 i x hx).below hg H4B.out
    have hxm := List.mem_of_getElem? hx
    have hxok := hok x hxm
    obtain ⟨⟨xh, xc, exl, _, _, _⟩, _⟩ := id hxok
    have hv5 : x.s.vs.length ≤ 1099511627777 := HV.out x hxm
    obtain ⟨w5, hw5⟩ : ∃ w5, (((w4.setCell ⟨w.heap.size + 1 + 1, 0, none⟩ (.int .u64 x.s.area)).setCell ⟨w.heap.size + 1 + 1, 1, none⟩ (.int .i64 x.s.n)).setCell ⟨w.heap.size + 1 + 1, 2, none⟩ (.slice (some ⟨xh, 0, none⟩) x.s.vs.length xc)).setCell ⟨w.heap.size + 1 + 1, 3, none⟩ (.bool x.s.sy) = w5 := ⟨_, rfl⟩
    have HW5 : Hid ((((w4.setCell ⟨w.heap.size + 1 + 1, 0, none⟩ (.int .u64 x.s.area)).setCell ⟨w.heap.size + 1 + 1, 1, none⟩ (.int .i64 x.s.n)).setCell ⟨w.heap.size + 1 + 1, 2, none⟩ (.slice (some ⟨xh, 0, none⟩) x.s.vs.length xc)).setCell ⟨w.heap.size + 1 + 1, 3, none⟩ (.bool x.s.sy) = w5) := hw5
    have H5A : Hid (WrAt w.heap.size r (.slice (some ⟨g, 0, none⟩) X.length cap) x.s.area x.s.n (.slice (some ⟨xh, 0, none⟩) x.s.vs.length xc) x.s.sy w5) := by
      subst hw5
      have far : ∀ k, k ≠ w.heap.size + 1 + 1 → ((((w4.setCell ⟨w.heap.size + 1 + 1, 0, none⟩ (.int .u64 x.s.area)).setCell ⟨w.heap.size + 1 + 1, 1, none⟩ (.int .i64 x.s.n)).setCell ⟨w.heap.size + 1 + 1, 2, none⟩ (.slice (some ⟨xh, 0, none⟩) x.s.vs.length xc)).setCell ⟨w.heap.size + 1 + 1, 3, none⟩ (.bool x.s.sy)).heap[k]? = w4.heap[k]? := fun k hk => by
        rw [Below.heap_setCell _ _ _ _ hk, Below.heap_setCell _ _ _ _ hk, Below.heap_setCell _ _ _ _ hk, Below.heap_setCell _ _ _ _ hk]
      refine ⟨(far _ (by omega)).trans H4A.out.b0, (far _ (by omega)).trans H4A.out.b1, ?_⟩
      rw [set_cell (set_cell (set_cell (set_cell H4A.out.b2 0 _) 1 _) 2 _) 3 _]
      rfl
    have H5B : Hid (Below w.heap.size w w5) := by
      subst hw5
      exact (((H4B.out.setCell (show w.heap.size ≤ w.heap.size + 1 + 1 by omega) _).setCell (show w.heap.size ≤ w.heap.size + 1 + 1 by omega) _).setCell (show w.heap.size ≤ w.heap.size + 1 + 1 by omega) _).setCell (show w.heap.size ≤ w.heap.size + 1 + 1 by omega) _
    have HS5 : Hid (∀ W, Below w.heap.size w W → StrsIn W (.slice (some ⟨xh, 0, none⟩) x.s.vs.length xc) x.s.vs) := fun W hW => .inr (exl ▸ (hxok.1.below hW).mono fun _ _ _ => trivial)
    have HEND : Hid (∀ l' lv w', SecRow (fun b => P b ∨ w.heap.size ≤ b) w' l' (putX ⟨⟨x.s.area, x.s.n, x.s.vs ++ [pad xs], x.s.sy⟩, lv⟩ false X) → Below w.heap.size w w' → WrSays P r X a n xs w (.returned (.tuple #[rdV (rdStep r) l', .int .i64 (if rdDies r then 30 else 0)])) w') := fun l' lv w' hS hb =>
      ⟨_, l', _, _, rfl, hS, hb, .inr (.inr (.inr (.inr ⟨hd, HF.out, ⟨x, hxm, xa, xn, rfl, ⟨lv, rfl⟩⟩, rfl⟩)))⟩
    have hs5 := H5A.out.lt
    have hs45 : w5.heap.size = w4.heap.size := by subst hw5; simp
    rw [exl] at x2
    clear hw5 hcs hok hx4 hxok exl eX xa xn
    have HO5 : Hid (StrOwn (w.heap.size + 3) (w5.alloc (.cells #[] 9)) (.slice (some ⟨w4.heap.size, 0, none⟩) 0 0) []) := by
      have h := strs_none (w.heap.size + 3) w5 (by omega)
      rw [hs45] at h
      exact h
    go_wp2_with (at_builtin; rw [HW5.out]; refine append_strs rfl _ _ rfl (w.heap.size + 3) _ _ [] x.s.vs rfl HO5.out rfl (HS5.out _ (H5B.out.alloc (by omega) _)) (by simp <;> omega) (by simp <;> omega) ?_; intro v6 w6 ho6 hb6)
    have ho6' : StrOwn (w.heap.size + 3) w6 v6 x.s.vs := by simpa using ho6
    have hbw6 : Below (w.heap.size + 3) w5 w6 := ((Below.refl _ w5).alloc (by omega) _).trans hb6
    have H6A : Hid (WrAt w.heap.size r (.slice (some ⟨g, 0, none⟩) X.length cap) x.s.area x.s.n (.slice (some ⟨xh, 0, none⟩) x.s.vs.length xc) x.s.sy w6) := H5A.out.below (B := w.heap.size + 3) (by omega) hbw6
    have H6B : Hid (Below w.heap.size w w6) := H5B.out.trans (hbw6.mono (by omega))
    have H6O : Hid (StrOwn (w.heap.size + 3) w6 v6 x.s.vs) := ho6'
    have hs6 := H6A.out.lt
    have hsw6 := H6B.out.size
    obtain ⟨av6, cv6, rfl⟩ := ho6'.shape
    clear ho6 hb6 ho6' hbw6 d0 d5 s0 s1 s2 s3 sz dz HO5 hs45 hs5 HW5
    go_wp2_with fail
    refine (refWhole_any N _ xs w6 (HR.out.below (H6B.out.mono hN)) (Nat.le_trans hN hsw6) (by omega)).mono ?_
    rintro e w7 ⟨rfl, hb7⟩
    have H7A : Hid (WrAt w.heap.size r (.slice (some ⟨g, 0, none⟩) X.length cap) x.s.area x.s.n (.slice (some ⟨xh, 0, none⟩) x.s.vs.length xc) x.s.sy w7) := H6A.out.below (B := w6.heap.size) (by omega) hb7
    have H7B : Hid (Below w.heap.size w w7) := H6B.out.trans (hb7.mono hsw6)
    have H7O : Hid (StrOwn (w.heap.size + 3) w7 (.slice av6 x.s.vs.length cv6) x.s.vs) := H6O.out.below hb7
    have hs7 := H7A.out.lt
    clear hb7 H6A H6O
    go_wp2_with (at_builtin; refine append_strs rfl _ _ rfl (w.heap.size + 3) _ _ x.s.vs [pad xs] rfl (H7O.out.alloc _) rfl (.inr ((strs_one (w.heap.size + 3) w7 (by omega) (pad xs)).strs (fun _ _ => trivial) (by simp))) (by simp <;> omega) (by simp <;> omega) ?_; intro v8 w8 ho8 hb8; have hbw8 : Below (w.heap.size + 3) w7 w8 := ((Below.refl _ w7).alloc (by omega) _).trans hb8; have H8A : Hid (WrAt w.heap.size r (.slice (some ⟨g, 0, none⟩) X.length cap) x.s.area x.s.n (.slice (some ⟨xh, 0, none⟩) x.s.vs.length xc) x.s.sy w8) := H7A.out.below (B := w.heap.size + 3) (by omega) hbw8; have H8B : Hid (Below w.heap.size w w8) := H7B.out.trans (hbw8.mono (by omega)); have H8O : Hid (StrOwn (w.heap.size + 3) w8 v8 (x.s.vs ++ [pad xs])) := ho8; have hs8 := H8A.out.lt; obtain ⟨s0, s1, s2, s3, sz⟩ := four_cells H8A.out.b2; obtain ⟨av8, L8, cv8, hL8, rfl⟩ := ho8.shape2; have HL8 : Hid ((x.s.vs ++ [pad xs]).length = L8) := hL8; obtain ⟨w9, hw9⟩ : ∃ w9, w8.setCell ⟨w.heap.size + 1 + 1, 2, none⟩ (.slice av8 L8 cv8) = w9 := ⟨_, rfl⟩; have HW9 : Hid (w8.setCell ⟨w.heap.size + 1 + 1, 2, none⟩ (.slice av8 L8 cv8) = w9) := hw9; have H9A : Hid (WrAt w.heap.size r (.slice (some ⟨g, 0, none⟩) X.length cap) x.s.area x.s.n (.slice av8 L8 cv8) x.s.sy w9) := (by (subst hw9; refine ⟨?_, ?_, ?_⟩; (exact (Below.heap_setCell _ _ _ _ (by show w.heap.size ≠ w.heap.size + 1 + 1; omega)).trans H8A.out.b0); (exact (Below.heap_setCell _ _ _ _ (by show w.heap.size + 1 ≠ w.heap.size + 1 + 1; omega)).trans H8A.out.b1); (rw [set_cell H8A.out.b2]; rfl))); have hld9 := loadD_at H9A.out.b0; have hld9' : loadD Try.prog (.pointer (some ⟨w.heap.size, 0, none⟩)) (w8.setCell ⟨w.heap.size + 1 + 1, 2, none⟩ (.slice av8 L8 cv8)) = .ok (rdV r (.slice (some ⟨g, 0, none⟩) X.length cap)) (w8.setCell ⟨w.heap.size + 1 + 1, 2, none⟩ (.slice av8 L8 cv8)) := (by rw [hw9]; exact hld9); clear hL8 ho8 hb8 hbw8 H7A H7O hw9 hld9)
    rw [HW9.out]
    have H9B : Hid (Below w.heap.size w w9) := by
      have hw9 := HW9.out
      subst hw9
      exact H8B.out.setCell (show w.heap.size ≤ w.heap.size + 1 + 1 by omega) _
    have H9O : Hid (StrOwn (w.heap.size + 3) w9 (.slice av8 L8 cv8) (x.s.vs ++ [pad xs])) := by
      have hw9 := HW9.out
      obtain ⟨g1, g2 | ⟨g, gc, cur, e, k1, k2, k3⟩⟩ := H8O.out
      · exact ⟨g1, .inl g2⟩
      · refine ⟨g1, .inr ⟨g, gc, cur, e, k1, ?_, k3⟩⟩
        subst hw9
        rw [Below.heap_setCell _ _ _ _ (by show g ≠ w.heap.size + 1 + 1; omega)]
        exact k2
    have hs9 := H9A.out.lt
    have HOK : Hid (∀ W, StrOwn (w.heap.size + 3) W (.slice av8 L8 cv8) (x.s.vs ++ [pad xs]) → RX.ok (fun b => P b ∨ w.heap.size ≤ b) W ⟨⟨x.s.area, x.s.n, x.s.vs ++ [pad xs], x.s.sy⟩, .slice av8 L8 cv8⟩) := fun W h => ⟨h.strs (fun b hb => .inr (by omega)) (by simp), by simp, by simp only [List.length_append, List.length_singleton]; omega⟩
    clear HW9 H8A H8B H8O s0 s1 s2 s3 sz hld9'
    refine (refPut_any P _ r (.slice (some ⟨g, 0, none⟩) X.length cap) X ⟨⟨x.s.area, x.s.n, x.s.vs ++ [pad xs], x.s.sy⟩, .slice av8 L8 cv8⟩ w9 (HX.out.below H9B.out) (HOK.out _ H9O.out) hl).mono ?_
    rintro e w10 ⟨l10, rfl, ho10, hb10⟩
    have H10A : Hid (WrAt w.heap.size r (.slice (some ⟨g, 0, none⟩) X.length cap) x.s.area x.s.n (.slice av8 L8 cv8) x.s.sy w10) := H9A.out.below (B := w9.heap.size) (by omega) hb10
    have H10B : Hid (Below w.heap.size w w10) := H9B.out.trans (hb10.mono (by omega))
    have H10O : Hid (StrOwn (w.heap.size + 3) w10 (.slice av8 L8 cv8) (x.s.vs ++ [pad xs])) := H9O.out.below hb10
    obtain ⟨ad10, n10, c10, rfl⟩ : ∃ (ad : Option Addr) (n c : Nat), l10 = .slice ad n c := by
      obtain ⟨ad, c, h⟩ := ho10.shape
      exact ⟨ad, _, c, h⟩
    have H10S : Hid (SecOwn (w9.heap.size + 3) w10 (.slice ad10 n10 c10) (putX ⟨⟨x.s.area, x.s.n, x.s.vs ++ [pad xs], x.s.sy⟩, .slice av8 L8 cv8⟩ false X)) := ho10
    have hs10 := H10A.out.lt
    have hs910 := hb10.size
    clear ho10 hb10 H9A H9B H9O
    go_wp2_with fail
    refine (refStep_any r ad10 n10 c10 w10 h1 h2 h3 h4 h5).mono ?_
    rintro e w11 ⟨rfl, hb11⟩
    have H11A : Hid (WrAt w.heap.size r (.slice (some ⟨g, 0, none⟩) X.length cap) x.s.area x.s.n (.slice av8 L8 cv8) x.s.sy w11) := H10A.out.below (B := w10.heap.size) (by omega) hb11
    have H11B : Hid (Below w.heap.size w w11) := H10B.out.trans (hb11.mono (by omega))
    have H11O : Hid (StrOwn (w.heap.size + 3) w11 (.slice av8 L8 cv8) (x.s.vs ++ [pad xs])) := H10O.out.below hb11
    have H11S : Hid (SecOwn (w9.heap.size + 3) w11 (.slice ad10 n10 c10) (putX ⟨⟨x.s.area, x.s.n, x.s.vs ++ [pad xs], x.s.sy⟩, .slice av8 L8 cv8⟩ false X)) := H10S.out.below hb11
    obtain ⟨r11, hr11⟩ : ∃ r11, rdStep r = r11 := ⟨_, rfl⟩
    obtain ⟨b11, hb11'⟩ : ∃ b11, rdDies r = b11 := ⟨_, rfl⟩
    have HE2 := HEND.out
    rw [hr11, hb11'] at HE2
    rw [hr11, hb11']
    have hst11 := storeD_at (r := r11) (ad := ad10) (n := n10) (c := c10) H11A.out.b0
    obtain ⟨w12, hw12⟩ : ∃ w12, setD w11 w.heap.size r11 (.slice ad10 n10 c10) = w12 := ⟨_, rfl⟩
    have H12A : Hid (DskAt w12 w.heap.size r11 (.slice ad10 n10 c10)) := hw12 ▸ H11A.out.b0.set
    have H12R : Hid (DskAt w12 (w.heap.size + 1) rd0 (.slice none 0 0)) := hw12 ▸ H11A.out.b1.far (by omega)
    have hld12 := loadD_at H12A.out
    have hst12 := storeD_at (r := r11) (ad := ad10) (n := n10) (c := c10) H12R.out
    obtain ⟨w13, hw13⟩ : ∃ w13, setD w12 (w.heap.size + 1) r11 (.slice ad10 n10 c10) = w13 := ⟨_, rfl⟩
    have H13R : Hid (DskAt w13 (w.heap.size + 1) r11 (.slice ad10 n10 c10)) := hw13 ▸ H12R.out.set
    have HE3 : Hid (∀ c : Int, c = (if b11 = true then 30 else 0) → WrSays P r X a n xs w (.returned (.tuple #[rdV r11 (.slice ad10 n10 c10), .int .i64 c])) w13) := by
      rintro c rfl
      have hbe : Below w.heap.size w w13 := by
        rw [← hw13, ← hw12]
        exact setD_below (setD_below H11B.out (Nat.le_refl _) _ _) (by omega) _ _
      refine HE2 _ (.slice av8 L8 cv8) _ ?_ hbe
      have far : ∀ k, w.heap.size + 3 ≤ k → w13.heap[k]? = w11.heap[k]? := fun k hk => by
        rw [← hw13, ← hw12, setD_far _ _ _ _ _ (by omega), setD_far _ _ _ _ _ (by omega)]
      have hlen : (putX ⟨⟨x.s.area, x.s.n, x.s.vs ++ [pad xs], x.s.sy⟩, .slice av8 L8 cv8⟩ false X).length ≤ X.length + 1 := putX_len ⟨⟨x.s.area, x.s.n, x.s.vs ++ [pad xs], x.s.sy⟩, .slice av8 L8 cv8⟩ X false
      refine SecOwn.row (B := w9.heap.size + 3) ?_ (by omega) (fun b hb => .inr (by omega)) (fun x hx => ?_)
      · obtain ⟨g1, g2 | ⟨g, gc, cur, e, k1, k2, k3⟩⟩ := H11S.out
        · exact ⟨g1, .inl g2⟩
        · exact ⟨g1, .inr ⟨g, gc, cur, e, k1, (far g (by omega)).trans k2, k3⟩⟩
      · rcases putX_mem _ X false x hx with rfl | hx
        · refine HOK.out _ ?_
          obtain ⟨g1, g2 | ⟨g, gc, cur, e, k1, k2, k3⟩⟩ := H11O.out
          · exact ⟨g1, .inl g2⟩
          · exact ⟨g1, .inr ⟨g, gc, cur, e, k1, (far g k1).trans k2, k3⟩⟩
        · obtain ⟨_, _, _, _, _, hok⟩ := HX.out
          exact ((hok x hx).below hbe).mono fun b _ h => .inl h
    rw [hw12] at hst11
    rw [hw13] at hst12
    clear hb11 hr11 hb11' HE2 HEND HOK H10A H10B H10O H10S hw12 hw13
    cases b11 with
    | true =>
      go_wp2_with fail
      exact retD2 rfl rfl rfl H13R.out rfl (HE3.out 30 rfl)
    | false =>
      go_wp2_with fail
      exact retD2 rfl rfl rfl H13R.out rfl (HE3.out 0 rfl)
  · have HNO : Hid (∀ x ∈ X, ¬ (x.s.area = a ∧ x.s.n = n)) := hno
    clear hno
    have hld4 := loadD_at H4A.out.b0
    by_cases h0 : r.room = 0
    · have h0' : (r.room == 0) = true := by simpa using h0
      have hst4 := storeD_at (r := r) (ad := ad) (n := X.length) (c := cap) H4A.out.b1
      have HR4 : Hid (DskAt (setD w4 (w.heap.size + 1) r (.slice ad X.length cap)) (w.heap.size + 1) r (.slice ad X.length cap)) := H4A.out.b1.set
      have HE : Hid (WrSays P r X a n xs w (.returned (.tuple #[rdV r (.slice ad X.length cap), .int .i64 32])) (setD w4 (w.heap.size + 1) r (.slice ad X.length cap))) := by
        have hb := setD_below H4B.out (b := w.heap.size + 1) (by omega) r (.slice ad X.length cap)
        exact ⟨r, .slice ad X.length cap, X, 32, rfl, (HX.out.below hb).mono fun b _ h => .inl h, hb, .inr (.inr (.inl ⟨hd, HF.out, HNO.out, h0, rfl, rfl, rfl⟩))⟩
      obtain ⟨w5, hw5⟩ : ∃ w5, setD w4 (w.heap.size + 1) r (.slice ad X.length cap) = w5 := ⟨_, rfl⟩
      rw [hw5] at hst4 HR4 HE
      clear h0 hw5
      go_wp2_with fail
      exact retD2 rfl rfl rfl HR4.out rfl HE.out
    · have h0' : (r.room == 0) = false := by simpa using h0
      obtain ⟨w5, hw5⟩ : ∃ w5, w4.setCell ⟨w.heap.size, 0, none⟩ (.int .i64 (r.room - 1)) = w5 := ⟨_, rfl⟩
      have HW5 : Hid (w4.setCell ⟨w.heap.size, 0, none⟩ (.int .i64 (r.room - 1)) = w5) := hw5
      obtain ⟨rq, hrq⟩ : ∃ rq : RD, rq = { r with room := r.room - 1 } := ⟨_, rfl⟩
      obtain ⟨vq, hvq⟩ : ∃ vq : List (List Nat), vq = [] := ⟨_, rfl⟩
      have H5A : Hid (WrAt w.heap.size rq (.slice ad X.length cap) a n (.slice none 0 0) false w5) := by
        subst hw5 hrq
        refine ⟨?_, ?_, ?_⟩
        · have := set_cell H4A.out.b0 0 (.int .i64 (r.room - 1))
          exact this
        · exact (Below.heap_setCell _ _ _ _ (by simp)).trans H4A.out.b1
        · rw [Below.heap_setCell _ _ _ _ (by show w.heap.size + 1 + 1 ≠ w.heap.size; omega)]; exact H4A.out.b2
      have H5B : Hid (Below w.heap.size w w5) := by subst hw5; exact H4B.out.setCell (Nat.le_refl _) _
      have HS5 : Hid (∀ W, Below w.heap.size w W → StrsIn W (.slice none 0 0) vq) := fun W _ => .inl ⟨rfl, hvq⟩
      have hv5 : vq.length ≤ 1099511627777 := by rw [hvq]; simp
      have HEND : Hid (∀ l' lv w', SecRow (fun b => P b ∨ w.heap.size ≤ b) w' l' (putX ⟨⟨a, n, vq ++ [pad xs], false⟩, lv⟩ false X) → Below w.heap.size w w' → WrSays P r X a n xs w (.returned (.tuple #[rdV (rdStep rq) l', .int .i64 (if rdDies rq then 30 else 0)])) w') := fun l' lv w' hS hb => by
        subst hrq hvq
        exact ⟨_, l', _, _, rfl, hS, hb, .inr (.inr (.inr (.inl ⟨hd, HF.out, HNO.out, h0, rfl, ⟨lv, rfl⟩, rfl⟩)))⟩
      have hs5 := H5A.out.lt
      have hs45 : w5.heap.size = w4.heap.size := by subst hw5; simp
      have g1 : 0 ≤ rq.steps := by rw [hrq]; exact h1
      have g2 : rq.steps < 4611686018427387904 := by rw [hrq]; exact h2
      have g3 : -9223372036854775808 ≤ rq.left := by rw [hrq]; exact h3
      have g4 : rq.left ≤ 9223372036854775807 := by rw [hrq]; exact h4
      have g5 : rq.armed = true → 0 ≤ rq.left := by rw [hrq]; exact h5
      clear hw5 h0 hld4 hrq hvq h1 h2 h3 h4 h5
      have HO5 : Hid (StrOwn (w.heap.size + 3) (w5.alloc (.cells #[] 9)) (.slice (some ⟨w4.heap.size, 0, none⟩) 0 0) []) := by
        have h := strs_none (w.heap.size + 3) w5 (by omega)
        rw [hs45] at h
        exact h
      go_wp2_with (at_builtin; rw [HW5.out]; refine append_strs rfl _ _ rfl (w.heap.size + 3) _ _ [] vq rfl HO5.out rfl (HS5.out _ (H5B.out.alloc (by omega) _)) (by simp <;> omega) (by simp <;> omega) ?_; intro v6 w6 ho6 hb6)
      have ho6' : StrOwn (w.heap.size + 3) w6 v6 vq := by simpa using ho6
      have hbw6 : Below (w.heap.size + 3) w5 w6 := ((Below.refl _ w5).alloc (by omega) _).trans hb6
      have H6A : Hid (WrAt w.heap.size rq (.slice ad X.length cap) a n (.slice none 0 0) false w6) := H5A.out.below (B := w.heap.size + 3) (by omega) hbw6
      have H6B : Hid (Below w.heap.size w w6) := H5B.out.trans (hbw6.mono (by omega))
      have H6O : Hid (StrOwn (w.heap.size + 3) w6 v6 vq) := ho6'
      have hs6 := H6A.out.lt
      have hsw6 := H6B.out.size
      obtain ⟨av6, cv6, rfl⟩ := ho6'.shape
      clear ho6 hb6 ho6' hbw6 d0 d5 s0 s1 s2 s3 sz dz HO5 hs45 hs5 HW5
      go_wp2_with fail
      refine (refWhole_any N _ xs w6 (HR.out.below (H6B.out.mono hN)) (Nat.le_trans hN hsw6) (by omega)).mono ?_
      rintro e w7 ⟨rfl, hb7⟩
      have H7A : Hid (WrAt w.heap.size rq (.slice ad X.length cap) a n (.slice none 0 0) false w7) := H6A.out.below (B := w6.heap.size) (by omega) hb7
      have H7B : Hid (Below w.heap.size w w7) := H6B.out.trans (hb7.mono hsw6)
      have H7O : Hid (StrOwn (w.heap.size + 3) w7 (.slice av6 vq.length cv6) vq) := H6O.out.below hb7
      have hs7 := H7A.out.lt
      clear hb7 H6A H6O
      go_wp2_with (at_builtin; refine append_strs rfl _ _ rfl (w.heap.size + 3) _ _ vq [pad xs] rfl (H7O.out.alloc _) rfl (.inr ((strs_one (w.heap.size + 3) w7 (by omega) (pad xs)).strs (fun _ _ => trivial) (by simp))) (by simp <;> omega) (by simp <;> omega) ?_; intro v8 w8 ho8 hb8; have hbw8 : Below (w.heap.size + 3) w7 w8 := ((Below.refl _ w7).alloc (by omega) _).trans hb8; have H8A : Hid (WrAt w.heap.size rq (.slice ad X.length cap) a n (.slice none 0 0) false w8) := H7A.out.below (B := w.heap.size + 3) (by omega) hbw8; have H8B : Hid (Below w.heap.size w w8) := H7B.out.trans (hbw8.mono (by omega)); have H8O : Hid (StrOwn (w.heap.size + 3) w8 v8 (vq ++ [pad xs])) := ho8; have hs8 := H8A.out.lt; obtain ⟨s0, s1, s2, s3, sz⟩ := four_cells H8A.out.b2; obtain ⟨av8, L8, cv8, hL8, rfl⟩ := ho8.shape2; have HL8 : Hid ((vq ++ [pad xs]).length = L8) := hL8; obtain ⟨w9, hw9⟩ : ∃ w9, w8.setCell ⟨w.heap.size + 1 + 1, 2, none⟩ (.slice av8 L8 cv8) = w9 := ⟨_, rfl⟩; have HW9 : Hid (w8.setCell ⟨w.heap.size + 1 + 1, 2, none⟩ (.slice av8 L8 cv8) = w9) := hw9; have H9A : Hid (WrAt w.heap.size rq (.slice ad X.length cap) a n (.slice av8 L8 cv8) false w9) := (by (subst hw9; refine ⟨?_, ?_, ?_⟩; (exact (Below.heap_setCell _ _ _ _ (by show w.heap.size ≠ w.heap.size + 1 + 1; omega)).trans H8A.out.b0); (exact (Below.heap_setCell _ _ _ _ (by show w.heap.size + 1 ≠ w.heap.size + 1 + 1; omega)).trans H8A.out.b1); (rw [set_cell H8A.out.b2]; rfl))); have hld9 := loadD_at H9A.out.b0; have hld9' : loadD Try.prog (.pointer (some ⟨w.heap.size, 0, none⟩)) (w8.setCell ⟨w.heap.size + 1 + 1, 2, none⟩ (.slice av8 L8 cv8)) = .ok (rdV rq (.slice ad X.length cap)) (w8.setCell ⟨w.heap.size + 1 + 1, 2, none⟩ (.slice av8 L8 cv8)) := (by rw [hw9]; exact hld9); clear hL8 ho8 hb8 hbw8 H7A H7O hw9 hld9)
      rw [HW9.out]
      have H9B : Hid (Below w.heap.size w w9) := by
        have hw9 := HW9.out
        subst hw9
        exact H8B.out.setCell (show w.heap.size ≤ w.heap.size + 1 + 1 by omega) _
      have H9O : Hid (StrOwn (w.heap.size + 3) w9 (.slice av8 L8 cv8) (vq ++ [pad xs])) := by
        have hw9 := HW9.out
        obtain ⟨g1, g2 | ⟨g, gc, cur, e, k1, k2, k3⟩⟩ := H8O.out
        · exact ⟨g1, .inl g2⟩
        · refine ⟨g1, .inr ⟨g, gc, cur, e, k1, ?_, k3⟩⟩
          subst hw9
          rw [Below.heap_setCell _ _ _ _ (by show g ≠ w.heap.size + 1 + 1; omega)]
          exact k2
      have hs9 := H9A.out.lt
      have HOK : Hid (∀ W, StrOwn (w.heap.size + 3) W (.slice av8 L8 cv8) (vq ++ [pad xs]) → RX.ok (fun b => P b ∨ w.heap.size ≤ b) W ⟨⟨a, n, vq ++ [pad xs], false⟩, .slice av8 L8 cv8⟩) := fun W h => ⟨h.strs (fun b hb => .inr (by omega)) (by simp), by simp, by simp only [List.length_append, List.length_singleton]; omega⟩
      clear HW9 H8A H8B H8O s0 s1 s2 s3 sz hld9'
      refine (refPut_any P _ rq (.slice ad X.length cap) X ⟨⟨a, n, vq ++ [pad xs], false⟩, .slice av8 L8 cv8⟩ w9 (HX.out.below H9B.out) (HOK.out _ H9O.out) hl).mono ?_
      rintro e w10 ⟨l10, rfl, ho10, hb10⟩
      have H10A : Hid (WrAt w.heap.size rq (.slice ad X.length cap) a n (.slice av8 L8 cv8) false w10) := H9A.out.below (B := w9.heap.size) (by omega) hb10
      have H10B : Hid (Below w.heap.size w w10) := H9B.out.trans (hb10.mono (by omega))
      have H10O : Hid (StrOwn (w.heap.size + 3) w10 (.slice av8 L8 cv8) (vq ++ [pad xs])) := H9O.out.below hb10
      obtain ⟨ad10, n10, c10, rfl⟩ : ∃ (ad : Option Addr) (n c : Nat), l10 = .slice ad n c := by
        obtain ⟨ad, c, h⟩ := ho10.shape
        exact ⟨ad, _, c, h⟩
      have H10S : Hid (SecOwn (w9.heap.size + 3) w10 (.slice ad10 n10 c10) (putX ⟨⟨a, n, vq ++ [pad xs], false⟩, .slice av8 L8 cv8⟩ false X)) := ho10
      have hs10 := H10A.out.lt
      have hs910 := hb10.size
      clear ho10 hb10 H9A H9B H9O
      go_wp2_with fail
      refine (refStep_any rq ad10 n10 c10 w10 g1 g2 g3 g4 g5).mono ?_
      rintro e w11 ⟨rfl, hb11⟩
      have H11A : Hid (WrAt w.heap.size rq (.slice ad X.length cap) a n (.slice av8 L8 cv8) false w11) := H10A.out.below (B := w10.heap.size) (by omega) hb11
      have H11B : Hid (Below w.heap.size w w11) := H10B.out.trans (hb11.mono (by omega))
      have H11O : Hid (StrOwn (w.heap.size + 3) w11 (.slice av8 L8 cv8) (vq ++ [pad xs])) := H10O.out.below hb11
      have H11S : Hid (SecOwn (w9.heap.size + 3) w11 (.slice ad10 n10 c10) (putX ⟨⟨a, n, vq ++ [pad xs], false⟩, .slice av8 L8 cv8⟩ false X)) := H10S.out.below hb11
      obtain ⟨r11, hr11⟩ : ∃ r11, rdStep rq = r11 := ⟨_, rfl⟩
      obtain ⟨b11, hb11'⟩ : ∃ b11, rdDies rq = b11 := ⟨_, rfl⟩
      have HE2 := HEND.out
      rw [hr11, hb11'] at HE2
      rw [hr11, hb11']
      have hst11 := storeD_at (r := r11) (ad := ad10) (n := n10) (c := c10) H11A.out.b0
      obtain ⟨w12, hw12⟩ : ∃ w12, setD w11 w.heap.size r11 (.slice ad10 n10 c10) = w12 := ⟨_, rfl⟩
      have H12A : Hid (DskAt w12 w.heap.size r11 (.slice ad10 n10 c10)) := hw12 ▸ H11A.out.b0.set
      have H12R : Hid (DskAt w12 (w.heap.size + 1) rd0 (.slice none 0 0)) := hw12 ▸ H11A.out.b1.far (by omega)
      have hld12 := loadD_at H12A.out
      have hst12 := storeD_at (r := r11) (ad := ad10) (n := n10) (c := c10) H12R.out
      obtain ⟨w13, hw13⟩ : ∃ w13, setD w12 (w.heap.size + 1) r11 (.slice ad10 n10 c10) = w13 := ⟨_, rfl⟩
      have H13R : Hid (DskAt w13 (w.heap.size + 1) r11 (.slice ad10 n10 c10)) := hw13 ▸ H12R.out.set
      have HE3 : Hid (∀ c : Int, c = (if b11 = true then 30 else 0) → WrSays P r X a n xs w (.returned (.tuple #[rdV r11 (.slice ad10 n10 c10), .int .i64 c])) w13) := by
        rintro c rfl
        have hbe : Below w.heap.size w w13 := by
          rw [← hw13, ← hw12]
          exact setD_below (setD_below H11B.out (Nat.le_refl _) _ _) (by omega) _ _
        refine HE2 _ (.slice av8 L8 cv8) _ ?_ hbe
        have far : ∀ k, w.heap.size + 3 ≤ k → w13.heap[k]? = w11.heap[k]? := fun k hk => by
          rw [← hw13, ← hw12, setD_far _ _ _ _ _ (by omega), setD_far _ _ _ _ _ (by omega)]
        have hlen : (putX ⟨⟨a, n, vq ++ [pad xs], false⟩, .slice av8 L8 cv8⟩ false X).length ≤ X.length + 1 := putX_len ⟨⟨a, n, vq ++ [pad xs], false⟩, .slice av8 L8 cv8⟩ X false
        refine SecOwn.row (B := w9.heap.size + 3) ?_ (by omega) (fun b hb => .inr (by omega)) (fun x hx => ?_)
        · obtain ⟨g1, g2 | ⟨g, gc, cur, e, k1, k2, k3⟩⟩ := H11S.out
          · exact ⟨g1, .inl g2⟩
          · exact ⟨g1, .inr ⟨g, gc, cur, e, k1, (far g (by omega)).trans k2, k3⟩⟩
        · rcases putX_mem _ X false x hx with rfl | hx
          · refine HOK.out _ ?_
            obtain ⟨g1, g2 | ⟨g, gc, cur, e, k1, k2, k3⟩⟩ := H11O.out
            · exact ⟨g1, .inl g2⟩
            · exact ⟨g1, .inr ⟨g, gc, cur, e, k1, (far g k1).trans k2, k3⟩⟩
          · obtain ⟨_, _, _, _, _, hok⟩ := HX.out
            exact ((hok x hx).below hbe).mono fun b _ h => .inl h
      rw [hw12] at hst11
      rw [hw13] at hst12
      clear hb11 hr11 hb11' HE2 HEND HOK H10A H10B H10O H10S hw12 hw13
      cases b11 with
      | true =>
        go_wp2_with fail
        exact retD2 rfl rfl rfl H13R.out rfl (HE3.out 30 rfl)
      | false =>
        go_wp2_with fail
        exact retD2 rfl rfl rfl H13R.out rfl (HE3.out 0 rfl)
end Go.Proofs.Ytpmmpdkeahmdiaa
