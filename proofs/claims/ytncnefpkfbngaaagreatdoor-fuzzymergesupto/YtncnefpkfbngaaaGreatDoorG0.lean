/- Texts that were written apart, joined. -/
import Derived.Test.YtncnefpkfbngaaaGreatDoorJ6
import Derived.Handy
import Derived.Carry
import Derived.Test.YtncnefpkfbngaaaGreatDoorJ7
/- Cut: what the seat's translation lacks is left out. -/
/- fst.Build, walked. -/
namespace Go.Proofs.YtncnefpkfbngaaaGreatDoor
open Go.RowKit Nums Fm
set_option maxRecDepth 100000

theorem two_set {w : World} {b : Nat} {a0 a1 : Value} {T : TypeId} {q : Nat × Nat} (h : w.heap[b]? = some (.cells #[a0, a1] T q)) (x y : Value) : ((w.setCell ⟨b, 0, none⟩ x).setCell ⟨b, 1, none⟩ y).cell? ⟨b, 0, none⟩ = some x ∧ ((w.setCell ⟨b, 0, none⟩ x).setCell ⟨b, 1, none⟩ y).cell? ⟨b, 1, none⟩ = some y := by
 have h1 := set_at (o := 0) h x
 have h2 := set_at (o := 1) h1 y
 refine ⟨?_, ?_⟩
 · simp only [World.cell?, h2]; rfl
 · simp only [World.cell?, h2]; rfl
/-- What region 11 looks at. -/
def SB (g : Nat) (vs : Value) (w : World) : Prop := w.cell? ⟨g, 0, none⟩ = some vs
theorem SB.facts {g : Nat} {vs : Value} {w : World} (h : SB g vs w) : w.cell? ⟨g, 0, none⟩ = some vs := h
end Go.Proofs.YtncnefpkfbngaaaGreatDoor

/- Machines in memory, as they are read. -/
namespace Go.Proofs.YtncnefpkfbngaaaGreatDoor
open Go.RowKit Nums Fm Pk
set_option maxRecDepth 100000

/-- A row of structs that is read, in a block below E. -/
structure GRow (E k : Nat) (w : World) (v : Value) (xss : List (List Value)) : Prop where
 ex : ∃ ad cap, v = .slice ad xss.length cap ∧ (0 < xss.length → ∃ g off, ad = some ⟨g, off, none⟩ ∧ g < E ∧ ∀ (i j : Nat) (x : List Value) (u : Value), xss[i]? = some x → x[j]? = some u → w.cell? ⟨g, off + i * k + j, none⟩ = some u)
theorem GRow.below {E k : Nat} {w w' : World} {v : Value} {xss : List (List Value)} (h : GRow E k w v xss) (hb : Below E w w') : GRow E k w' v xss := by
 obtain ⟨ad, cap, rfl, hc⟩ := h.ex
 refine ⟨ad, cap, rfl, fun h0 => ?_⟩
 obtain ⟨g, off, rfl, hg, hx⟩ := hc h0
 exact ⟨g, off, rfl, hg, fun i j x u hi hj => (hb.cell (p := ⟨g, off + i * k + j, none⟩) hg).trans (hx i j x u hi hj)⟩
theorem GRow.mono {E E' k : Nat} {w : World} {v : Value} {xss : List (List Value)} (h : GRow E k w v xss) (hE : E ≤ E') : GRow E' k w v xss := by
 obtain ⟨ad, cap, rfl, hc⟩ := h.ex
 refine ⟨ad, cap, rfl, fun h0 => ?_⟩
 obtain ⟨g, off, rfl, hg, hx⟩ := hc h0
 exact ⟨g, off, rfl, Nat.lt_of_lt_of_le hg hE, hx⟩
theorem GRow.shape {E k : Nat} {w : World} {v : Value} {xss : List (List Value)} (h : GRow E k w v xss) : ∃ ad cap, v = .slice ad xss.length cap := by
 obtain ⟨ad, cap, rfl, _⟩ := h.ex
 exact ⟨ad, cap, rfl⟩
theorem GOwn.reads {T : TypeId} {k B : Nat} {w : World} {v : Value} {xss : List (List Value)} (h : GOwn T k B w v xss) : GRow w.heap.size k w v xss := by
 obtain ⟨ad, cap, hv, _⟩ := h.shape
 refine ⟨ad, cap, hv, fun h0 => ?_⟩
 obtain ⟨g, c2, hv2, hg, _, _, hc⟩ := h.cell h0
 rw [hv] at hv2
 simp only [Value.slice.injEq] at hv2
 exact ⟨g, 0, hv2.1, hg, fun i j x u hi hj => by rw [Nat.zero_add]; exact hc i j x u hi hj⟩
def cellsRA (a : RArc) : List Value := [.int .i32 a.label, .int .i64 a.out, .int .i64 a.to]
def OkRA (a : RArc) : Prop := Fits32 a.label ∧ Fits64 a.out ∧ Fits64 a.to
/-- Arcs that are read. -/
structure ArcsAt (E : Nat) (w : World) (va : Value) (l : List RArc) : Prop where
 row : GRow E 3 w va (l.map cellsRA)
 ok : ∀ a ∈ l, OkRA a
 len : l.length ≤ 9223372036854775807
theorem ArcsAt.below {E : Nat} {w w' : World} {va : Value} {l : List RArc} (h : ArcsAt E w va l) (hb : Below E w w') : ArcsAt E w' va l := ⟨h.row.below hb, h.ok, h.len⟩
theorem ArcsAt.shape {E : Nat} {w : World} {va : Value} {l : List RArc} (h : ArcsAt E w va l) : ∃ ad cap, va = .slice ad l.length cap := by
 obtain ⟨ad, cap, h1⟩ := h.row.shape
 exact ⟨ad, cap, by rw [h1, List.length_map]⟩
/-- One arc's cells. -/
theorem ArcsAt.at {E : Nat} {w : World} {ad : Option Addr} {n cap : Nat} {l : List RArc} (h : ArcsAt E w (.slice ad n cap) l) {k : Nat} {a : RArc} (ha : l[k]? = some a) : ∃ g off, ad = some ⟨g, off, none⟩ ∧ g < E ∧ w.cell? ⟨g, off + k * 3, none⟩ = some (.int .i32 a.label) ∧ w.cell? ⟨g, off + k * 3 + 1, none⟩ = some (.int .i64 a.out) ∧ w.cell? ⟨g, off + k * 3 + 2, none⟩ = some (.int .i64 a.to) := by
 obtain ⟨ad', cap', hv, hc⟩ := h.row.ex
 simp only [Value.slice.injEq] at hv
 have hk := (List.getElem?_eq_some_iff.1 ha).1
 obtain ⟨g, off, rfl, hg, hx⟩ := hc (by rw [List.length_map]; omega)
 have e : (l.map cellsRA)[k]? = some (cellsRA a) := by rw [List.getElem?_map, ha]; rfl
 exact ⟨g, off, hv.1, hg, hx k 0 _ _ e rfl, hx k 1 _ _ e rfl, hx k 2 _ _ e rfl⟩
/-- States that are read. -/
structure StsAt (E : Nat) (w : World) (vs : Value) (m : List RSt) : Prop where
 ex : ∃ xss, GRow E 3 w vs xss ∧ xss.length = m.length ∧ ∀ (i : Nat) (s : RSt), m[i]? = some s → ∃ va, xss[i]? = some [.bool s.final, .int .i64 s.out, va] ∧ ArcsAt E w va s.arcs
 ok : ∀ s ∈ m, Fits64 s.out
 len : m.length ≤ 9223372036854775807
theorem StsAt.below {E : Nat} {w w' : World} {vs : Value} {m : List RSt} (h : StsAt E w vs m) (hb : Below E w w') : StsAt E w' vs m := by
 obtain ⟨xss, h1, h2, h3⟩ := h.ex
 refine ⟨⟨xss, h1.below hb, h2, fun i s hi => ?_⟩, h.ok, h.len⟩
 obtain ⟨va, e1, e2⟩ := h3 i s hi
 exact ⟨va, e1, e2.below hb⟩
theorem StsAt.shape {E : Nat} {w : World} {vs : Value} {m : List RSt} (h : StsAt E w vs m) : ∃ ad cap, vs = .slice ad m.length cap := by
 obtain ⟨xss, h1, h2, _⟩ := h.ex
 obtain ⟨ad, cap, e⟩ := h1.shape
 exact ⟨ad, cap, by rw [e, h2]⟩
/-- One state's cells. -/
theorem StsAt.at {E : Nat} {w : World} {ad : Option Addr} {n cap : Nat} {m : List RSt} (h : StsAt E w (.slice ad n cap) m) {k : Nat} {s : RSt} (hs : m[k]? = some s) : ∃ g off va, ad = some ⟨g, off, none⟩ ∧ g < E ∧ w.cell? ⟨g, off + k * 3, none⟩ = some (.bool s.final) ∧ w.cell? ⟨g, off + k * 3 + 1, none⟩ = some (.int .i64 s.out) ∧ w.cell? ⟨g, off + k * 3 + 2, none⟩ = some va ∧ ArcsAt E w va s.arcs := by
 obtain ⟨xss, h1, h2, h3⟩ := h.ex
 obtain ⟨ad', cap', hv, hc⟩ := h1.ex
 simp only [Value.slice.injEq] at hv
 have hk := (List.getElem?_eq_some_iff.1 hs).1
 obtain ⟨g, off, rfl, hg, hx⟩ := hc (by omega)
 obtain ⟨va, e1, e2⟩ := h3 k s hs
 exact ⟨g, off, va, hv.1, hg, hx k 0 _ _ e1 rfl, hx k 1 _ _ e1 rfl, hx k 2 _ _ e1 rfl, e2⟩
end Go.Proofs.YtncnefpkfbngaaaGreatDoor

/- How states are compared. No program is named here. -/
namespace Go.Proofs.YtncnefpkfbngaaaGreatDoor.Pk

def cmpI (a b : Int) : Int := if a < b then -1 else if b < a then 1 else 0
def orI : List Int → Int
 | [] => 0
 | c :: r => if c ≠ 0 then c else orI r
def cmpA (x y : RArc) : Int := orI [cmpI x.label y.label, cmpI x.out y.out, cmpI x.to y.to]
def cmpL : List RArc → List RArc → Int
 | [], [] => 0
 | [], _ :: _ => -1
 | _ :: _, [] => 1
 | x :: xs, y :: ys => if cmpA x y ≠ 0 then cmpA x y else cmpL xs ys
def headS (s : RSt) : Int := 2 * s.arcs.length + (if s.final then 1 else 0)
def cmpH (s t : RSt) : Int := orI [cmpI (headS s) (headS t), cmpI s.out t.out]
def cmpS (s t : RSt) : Int := if cmpH s t ≠ 0 then cmpH s t else cmpL s.arcs t.arcs
/-- A way of comparing that is an order. -/
structure Ord3 {α : Type} (c : α → α → Int) : Prop where
 eq : ∀ x y, c x y = 0 ↔ x = y
 anti : ∀ x y, c x y < 0 ↔ 0 < c y x
 tr : ∀ x y z, c x y < 0 → c y z < 0 → c x z < 0
theorem cmpI_ord : Ord3 cmpI := by
 refine ⟨fun x y => ?_, fun x y => ?_, fun x y z => ?_⟩ <;> unfold cmpI
 · repeat' split
   all_goals omega
 · repeat' split
   all_goals omega
 · repeat' split
   all_goals omega
/-- By the one, then by the other. -/
theorem Ord3.then {α β γ : Type} {c : α → α → Int} {d : β → β → Int} (hc : Ord3 c) (hd : Ord3 d) (p : γ → α) (q : γ → β) (inj : ∀ x y, p x = p y → q x = q y → x = y) : Ord3 fun x y : γ => if c (p x) (p y) ≠ 0 then c (p x) (p y) else d (q x) (q y) := by
 have c0 : ∀ x y, c x y = 0 ↔ c y x = 0 := fun x y => by rw [hc.eq, hc.eq]; exact eq_comm
 refine ⟨fun x y => ?_, fun x y => ?_, fun x y z => ?_⟩
 · split
   · rename_i h
     exact ⟨fun e => absurd e h, fun e => absurd ((hc.eq _ _).2 (congrArg p e)) h⟩
   · rename_i h
     have h' : c (p x) (p y) = 0 := Decidable.byContradiction h
     exact ⟨fun e => inj x y ((hc.eq _ _).1 h') ((hd.eq _ _).1 e), fun e => (hd.eq _ _).2 (congrArg q e)⟩
 · by_cases h : c (p x) (p y) = 0
   · rw [if_neg (fun hn => hn h), if_neg (fun hn => hn ((c0 _ _).1 h))]
     exact hd.anti _ _
   · rw [if_pos h, if_pos (fun hn => h ((c0 _ _).2 hn))]
     exact hc.anti _ _
 · by_cases h1 : c (p x) (p y) = 0
   · have e1 := (hc.eq _ _).1 h1
     rw [if_neg (fun hn => hn h1)]
     by_cases h2 : c (p y) (p z) = 0
     · have e2 := (hc.eq _ _).1 h2
       rw [if_neg (fun hn => hn h2), e1, if_neg (fun hn => hn h2)]
       exact hd.tr _ _ _
     · rw [if_pos h2, e1, if_pos h2]
       exact fun _ h => h
   · rw [if_pos h1]
     by_cases h2 : c (p y) (p z) = 0
     · have e2 := (hc.eq _ _).1 h2
       rw [if_neg (fun hn => hn h2), ← e2, if_pos h1]
       exact fun h _ => h
     · rw [if_pos h2]
       intro g1 g2
       have := hc.tr _ _ _ g1 g2
       rw [if_pos (by omega)]
       exact this
theorem cmpA_ord : Ord3 cmpA := by
 have h := Ord3.then (γ := RArc) cmpI_ord (Ord3.then (γ := Int × Int) cmpI_ord cmpI_ord (·.1) (·.2) (fun x y h1 h2 => Prod.ext h1 h2)) (·.label) (fun a => (a.out, a.to)) (fun x y h1 h2 => by
  cases x; cases y
  simp only [Prod.mk.injEq] at h1 h2
  rw [h1, h2.1, h2.2])
 have e : cmpA = fun x y : RArc => if cmpI x.label y.label ≠ 0 then cmpI x.label y.label else if cmpI x.out y.out ≠ 0 then cmpI x.out y.out else cmpI x.to y.to := by
  funext x y
  unfold cmpA orI orI orI orI
  by_cases h1 : cmpI x.label y.label = 0
  · by_cases h2 : cmpI x.out y.out = 0
    · by_cases h3 : cmpI x.to y.to = 0 <;> simp [h1, h2, h3]
    · simp [h1, h2]
  · simp [h1]
 rw [e]
 exact h
theorem cmpL_eq : ∀ x y, cmpL x y = 0 ↔ x = y
 | [], [] => by simp [cmpL]
 | [], _ :: _ => by simp [cmpL]
 | _ :: _, [] => by simp [cmpL]
 | x :: xs, y :: ys => by
  rw [cmpL]
  by_cases h : cmpA x y = 0
  · rw [if_neg (fun hn => hn h), cmpL_eq xs ys, (cmpA_ord.eq _ _).1 h]
    simp
  · rw [if_pos h]
    exact ⟨fun e => absurd e h, fun e => absurd ((cmpA_ord.eq _ _).2 (List.cons.inj e).1) h⟩
theorem cmpL_anti : ∀ x y, cmpL x y < 0 ↔ 0 < cmpL y x
 | [], [] => by simp [cmpL]
 | [], _ :: _ => by simp [cmpL]
 | _ :: _, [] => by simp [cmpL]
 | x :: xs, y :: ys => by
  rw [cmpL, cmpL]
  have c0 : cmpA x y = 0 ↔ cmpA y x = 0 := by rw [cmpA_ord.eq, cmpA_ord.eq]; exact eq_comm
  by_cases h : cmpA x y = 0
  · rw [if_neg (fun hn => hn h), if_neg (fun hn => hn (c0.1 h))]
    exact cmpL_anti xs ys
  · rw [if_pos h, if_pos (fun hn => h (c0.2 hn))]
    exact cmpA_ord.anti _ _
theorem cmpL_tr : ∀ x y z, cmpL x y < 0 → cmpL y z < 0 → cmpL x z < 0
 | [], [], _, h, _ => by simp [cmpL] at h
 | [], _ :: _, [], _, h => by simp [cmpL] at h
 | [], _ :: _, _ :: _, _, _ => by simp [cmpL]
 | _ :: _, [], _, h, _ => by simp [cmpL] at h
 | _ :: _, _ :: _, [], _, h => by simp [cmpL] at h
 | x :: xs, y :: ys, z :: zs, h1, h2 => by
  rw [cmpL] at h1 h2 ⊢
  by_cases g1 : cmpA x y = 0
  · have e1 := (cmpA_ord.eq _ _).1 g1
    rw [if_neg (fun hn => hn g1)] at h1
    subst e1
    by_cases g2 : cmpA x z = 0
    · rw [if_neg (fun hn => hn g2)] at h2 ⊢
      exact cmpL_tr xs ys zs h1 h2
    · rw [if_pos g2] at h2 ⊢
      exact h2
  · rw [if_pos g1] at h1
    by_cases g2 : cmpA y z = 0
    · have e2 := (cmpA_ord.eq _ _).1 g2
      subst e2
      rw [if_pos g1]
      exact h1
    · rw [if_pos g2] at h2
      have := cmpA_ord.tr _ _ _ h1 h2
      rw [if_pos (by omega)]
      exact this
theorem cmpL_ord : Ord3 cmpL := ⟨cmpL_eq, cmpL_anti, cmpL_tr⟩
theorem cmpS_ord : Ord3 cmpS := by
 have hh : Ord3 fun x y : Int × Int => if cmpI x.1 y.1 ≠ 0 then cmpI x.1 y.1 else cmpI x.2 y.2 := Ord3.then cmpI_ord cmpI_ord (·.1) (·.2) (fun x y h1 h2 => Prod.ext h1 h2)
 have h := Ord3.then (γ := RSt) hh cmpL_ord (fun s => (headS s, s.out)) (·.arcs) (fun x y h1 h2 => by
  simp only [Prod.mk.injEq] at h1
  obtain ⟨h3, h4⟩ := h1
  unfold headS at h3
  rw [h2] at h3
  cases x with
  | mk f1 o1 a1 =>
   cases y with
   | mk f2 o2 a2 =>
    simp only at h2 h3 h4
    subst h2 h4
    cases f1 <;> cases f2 <;> simp at h3 ⊢ <;> omega)
 have e : cmpS = fun s t : RSt => if (if cmpI (headS s) (headS t) ≠ 0 then cmpI (headS s) (headS t) else cmpI s.out t.out) ≠ 0 then (if cmpI (headS s) (headS t) ≠ 0 then cmpI (headS s) (headS t) else cmpI s.out t.out) else cmpL s.arcs t.arcs := by
  funext s t
  have eh : cmpH s t = if cmpI (headS s) (headS t) ≠ 0 then cmpI (headS s) (headS t) else cmpI s.out t.out := by
   unfold cmpH orI orI orI
   by_cases h1 : cmpI (headS s) (headS t) = 0
   · by_cases h2 : cmpI s.out t.out = 0 <;> simp [h1, h2]
   · simp [h1]
  unfold cmpS
  rw [eh]
 rw [e]
 exact h
end Go.Proofs.YtncnefpkfbngaaaGreatDoor.Pk
