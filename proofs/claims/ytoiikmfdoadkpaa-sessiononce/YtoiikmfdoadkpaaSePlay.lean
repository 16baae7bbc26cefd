/- A round of playing a script. -/
import Derived.Test.YtoiikmfdoadkpaaSeStands
namespace Go.Proofs.Ytoiikmfdoadkpaa
open Go.RowKit Go.Lib
set_option maxRecDepth 100000
namespace Se
/-- The rows, the sessions, what was kept. -/
abbrev St := List Rw × Nat × List Kp
def stp (s : St) (o : Oo) : St := (doL s.1 o, doM s.2.1 o, doK s.2.1 s.2.2 o)
/-- A script is being played: the table at p, the document's in block q. -/
def Play (q B p : Nat) (w0 : World) (s : St) (w : World) : Prop :=
  ∃ v x, DSt B w p v s.1 x s.2.1 s.2.2 ∧ w.heap[q]? = some (.cells (cellsT x).toArray 29) ∧ Below w0.heap.size w0 w
theorem DSt.off {B p q : Nat} {w : World} {v : Value} {l : List Rw} {x : Tb} {m : Nat} {ks : List Kp} {cs : Array Value} (S : DSt B w p v l x m ks) (h : w.heap[q]? = some (.cells cs 29)) (hp : p ≠ q) : ¬ TF p v q ∧ (tvs x).ownBlock ≠ some q := by
  refine ⟨fun hk => ?_, fun hg => ?_⟩
  · rcases hk with e | hk
    · exact hp e.symm
    · obtain ⟨_, cur, h1⟩ := S.tab.row.block hk
      rw [h] at h1
      simp only [Option.some.injEq, Obj.cells.injEq] at h1
      exact absurd h1.2.1 (by decide)
  · obtain ⟨_, cur, h1⟩ := S.ref.2.block hg
    rw [h] at h1
    simp only [Option.some.injEq, Obj.cells.injEq] at h1
    exact absurd h1.2.1 (by decide)
theorem play_round {q B p : Nat} {w0 wr : World} {s : St} (h : Play q B p w0 s wr) (hp : p ≠ q) (hB : w0.heap.size ≤ B) (hq : w0.heap.size ≤ q) (o : Oo) (hl : s.1.length ≤ 1099511627775) (hm : s.2.1 ≤ 1099511627776) (hk : s.2.2.length ≤ 549755813888) :
    ∃ i ad n c W1, storeO Try.prog (.pointer (some ⟨wr.heap.size, 0, none⟩)) (valO o) (wr.alloc zO) = .ok () W1 ∧ loadT Try.prog (.pointer (some ⟨q, 0, none⟩)) W1 = .ok (valT (i, ad, n, c)) W1 ∧ loadO Try.prog (.pointer (some ⟨wr.heap.size, 0, none⟩)) W1 = .ok (valO o) W1 ∧
      Calls Try.prog 11 #[.pointer (some ⟨p, 0, none⟩), valT (i, ad, n, c), valO o] W1 fun e w3 => ∃ i2 ad2 n2 c2 W4 W5, e = .returned (.tuple #[.agg #[.int .u64 i2, .slice ad2 n2 c2], .bool (doB s.1 s.2.1 s.2.2 o)]) ∧ storeT Try.prog (.pointer (some ⟨w3.heap.size, 0, none⟩)) (valT (i2, ad2, n2, c2)) (w3.alloc zT) = .ok () W4 ∧ loadT Try.prog (.pointer (some ⟨w3.heap.size, 0, none⟩)) W4 = .ok (valT (i2, ad2, n2, c2)) W4 ∧ storeT Try.prog (.pointer (some ⟨q, 0, none⟩)) (valT (i2, ad2, n2, c2)) W4 = .ok () W5 ∧ Hid (Play q B p w0 (stp s o) W5) := by
  obtain ⟨v, x, S, hx, hb⟩ := h
  obtain ⟨W1, hs1, hb1, hc1⟩ := new_storeO wr o
  have S1 := S.below hb1
  have hx1 := heap_own hb1 (lt_of_heap hx) hx
  obtain ⟨h1, h2⟩ := S1.off hx1 hp
  have HC := does_any B W1 p v s.1 x s.2.1 s.2.2 o S1 hl hm hk
  refine ⟨x.1, x.2.1, x.2.2.1, x.2.2.2, W1, hs1, own_loadT hx1, own_loadO hc1, HC.mono ?_⟩
  rintro e w3 ⟨ad, n, c, v', rfl, S3, u3, hv3⟩
  obtain ⟨W4, hs4, hb4, hc4⟩ := new_storeT w3 (((doM s.2.1 o : Nat) : Int), ad, n, c)
  have hx3 : w3.heap[q]? = _ := (u3.block q (lt_of_heap hx1) h1).trans hx1
  have hx4 := heap_own hb4 (lt_of_heap hx3) hx3
  have S4 := S3.below hb4
  obtain ⟨k1, k2⟩ := S4.off hx4 hp
  obtain ⟨W5, hs5, u5, hc5⟩ := own_storeT (ys := cellsT x) rfl hx4 (((doM s.2.1 o : Nat) : Int), ad, n, c)
  have z := hb.size
  have z1 := hb1.size
  have z3 := u3.size
  have z4 := hb4.size
  refine ⟨_, ad, n, c, W4, W5, rfl, hs4, own_loadT hc4, hs5, v', _, S4.upd u5 (fun k hk e => k1 (by have : k = q := e; subst this; exact hk)) (fun g hg e => k2 (by have : g = q := e; subst this; exact hg)), hc5, ?_⟩
  exact (((hb.trans (hb1.mono (by omega))).trans (u3.below (fun k hk => by have := TF.low S1.tab hk; omega) (by omega))).trans (hb4.mono (by omega))).trans (u5.below (fun k e => by have : k = q := e; omega) (by omega))
theorem grow_open {E k n c : Nat} {w : World} {a0 : Option Addr} {xss : List (List Value)} (h : GRow E k w (.slice a0 n c) xss) (h0 : 0 < xss.length) : ∃ g off, a0 = some ⟨g, off, none⟩ ∧ g < E ∧ ∀ (i j : Nat) (x : List Value) (u : Value), xss[i]? = some x → x[j]? = some u → w.cell? ⟨g, off + i * k + j, none⟩ = some u := by
  obtain ⟨ad, cap, e, hc⟩ := h.ex
  simp only [Value.slice.injEq] at e
  obtain ⟨rfl, _, _⟩ := e
  exact hc h0
theorem Play.below {q B p : Nat} {w0 w : World} {s : St} (h : Play q B p w0 s w) : Below w0.heap.size w0 w := by
  obtain ⟨_, _, _, _, hb⟩ := h
  exact hb
theorem stp_step {os : List Oo} {k : Nat} {o : Oo} (h : os[k]? = some o) (s : St) : plays (os.take (k + 1)) s = stp (plays (os.take k) s) o := plays_step h s
end Se
end Go.Proofs.Ytoiikmfdoadkpaa
