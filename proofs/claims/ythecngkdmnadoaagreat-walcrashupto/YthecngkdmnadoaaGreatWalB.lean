import Derived.Test.YthecngkdmnadoaaGreatSync
namespace Go.Proofs.YthecngkdmnadoaaGreat
open Go.RowKit
set_option maxRecDepth 100000
structure WN where
 first:Nat
 many:Nat
 next:Nat
 area:Nat
 sector:Nat
 tail:Nat
 adrift:Bool
 fault:Int
structure WV where
 p:Nat
 ra:Option Addr
 rc:Nat
 pa:Option Addr
 pn:Nat
 pc:Nat
 ta:Option Addr
 tc:Nat
def walC(n:WN)(v:WV):Array Value:=#[.pointer (some ⟨v.p,0,none⟩),.int .u64 (n.first:Int),.slice v.ra n.many v.rc,.slice v.pa v.pn v.pc,.int .u64 (n.next:Int),.int .u64 (n.area:Int),.int .i64 (n.sector:Int),.slice v.ta n.tail v.tc,.bool n.adrift,.int .i64 n.fault]
def WalAt(w:World)(b:Nat)(n:WN)(v:WV):Prop:=w.heap[b]?=some (.cells (walC n v) 83 (0,0))
theorem WalAt.cells{w:World}{b:Nat}{n:WN}{v:WV}(h:WalAt w b n v):
 w.cell? ⟨b,0,none⟩=some (.pointer (some ⟨v.p,0,none⟩))∧w.cell? ⟨b,1,none⟩=some (.int .u64 (n.first:Int))∧w.cell? ⟨b,2,none⟩=some (.slice v.ra n.many v.rc)∧w.cell? ⟨b,3,none⟩=some (.slice v.pa v.pn v.pc)∧w.cell? ⟨b,4,none⟩=some (.int .u64 (n.next:Int))∧w.cell? ⟨b,5,none⟩=some (.int .u64 (n.area:Int))∧w.cell? ⟨b,6,none⟩=some (.int .i64 (n.sector:Int))∧w.cell? ⟨b,7,none⟩=some (.slice v.ta n.tail v.tc)∧w.cell? ⟨b,8,none⟩=some (.bool n.adrift)∧w.cell? ⟨b,9,none⟩=some (.int .i64 n.fault)∧(∀o,w.frozen? ⟨b,o,none⟩=false):=by
 unfold WalAt walC at h;refine⟨?_,?_,?_,?_,?_,?_,?_,?_,?_,?_,fun o=>?_⟩<;>simp[World.cell?,World.frozen?,h]
theorem WalAt.lt{w:World}{b:Nat}{n:WN}{v:WV}(h:WalAt w b n v):b<w.heap.size:=(Array.getElem?_eq_some_iff.1 h).1
theorem WalAt.below{w w':World}{b:Nat}{n:WN}{v:WV}(h:WalAt w b n v){B:Nat}(hB:b<B)(hb:Below B w w'):WalAt w' b n v:=(hb.block b hB).trans h
theorem WalAt.fault{w:World}{b:Nat}{n:WN}{v:WV}(h:WalAt w b n v)(e:Int):WalAt (w.setCell ⟨b,9,none⟩ (.int .i64 e)) b { n with fault:=e } v:=by
 unfold WalAt;rw[set_cell h 9 _];rfl
set_option maxHeartbeats 1000000 in
theorem areaOf_any(n:Nat)(w:World)(hn:n≤1152921504606846976):Calls Tryz.prog 38 #[.int .u64 (n:Int)] w fun e w'=>e = .returned (.int .u64 ((4*n+1:Nat):Int))∧w'=w:=by
 go_enter Tryz.func38,Tryz.ntmps38;go_wp2;go_ret;exact⟨by go_num,rfl⟩
set_option maxHeartbeats 1000000 in
theorem sectors_any(n:Nat)(w:World)(hn:n≤140737488355328):Calls Tryz.prog 96 #[.int .i64 (n:Int)] w fun e w'=>e = .returned (.int .i64 (((n+62)/63:Nat):Int))∧w'=w:=by
 have h1:((n:Int)+63-1).tdiv 63=(((n+62)/63:Nat):Int):=by rw[Int.tdiv_eq_ediv_of_nonneg (by omega)];omega
 go_enter Tryz.func96,Tryz.ntmps96;go_wp2;go_ret;exact⟨by first|rfl|go_num,rfl⟩
set_option maxHeartbeats 1000000 in
theorem WFirst_any(w:World)(b:Nat)(n:WN)(v:WV)(h:WalAt w b n v):Calls Tryz.prog 16 #[.pointer (some ⟨b,0,none⟩)] w fun e w'=>e = .returned (.int .u64 (n.first:Int))∧w'=w:=by
 obtain⟨c0,c1,c2,c3,c4,c5,c6,c7,c8,c9,cz⟩:=h.cells;clear h;go_enter Tryz.func16,Tryz.ntmps16;go_wp2;go_ret;exact⟨rfl,rfl⟩
set_option maxHeartbeats 1000000 in
theorem WNext_any(w:World)(b:Nat)(n:WN)(v:WV)(h:WalAt w b n v):Calls Tryz.prog 19 #[.pointer (some ⟨b,0,none⟩)] w fun e w'=>e = .returned (.int .u64 (n.next:Int))∧w'=w:=by
 obtain⟨c0,c1,c2,c3,c4,c5,c6,c7,c8,c9,cz⟩:=h.cells;clear h;go_enter Tryz.func19,Tryz.ntmps19;go_wp2;go_ret;exact⟨rfl,rfl⟩
set_option maxHeartbeats 1000000 in
theorem wend_any(w:World)(b:Nat)(n:WN)(v:WV)(h:WalAt w b n v)(hs:n.first+n.many<18446744073709551616)(hm:n.many≤9223372036854775807):Calls Tryz.prog 55 #[.pointer (some ⟨b,0,none⟩)] w fun e w'=>e = .returned (.int .u64 ((n.first+n.many:Nat):Int))∧∃k,w'=w.drewN k:=by
 obtain⟨c0,c1,c2,c3,c4,c5,c6,c7,c8,c9,cz⟩:=h.cells;clear h;go_enter Tryz.func55,Tryz.ntmps55;go_wp2_with fail;go_quiet (fail);go_wp2;go_ret;exact⟨by first|rfl|go_num,_,rfl⟩
set_option maxHeartbeats 1000000 in
theorem keep_any(w:World)(b:Nat)(n:WN)(v:WV)(e:Int)(h:WalAt w b n v):Calls Tryz.prog 48 #[.pointer (some ⟨b,0,none⟩),.int .i64 e] w fun x w'=>x = .returned (.int .i64 e)∧w'=if e=51 then w else w.setCell ⟨b,9,none⟩ (.int .i64 e):=by
 obtain⟨c0,c1,c2,c3,c4,c5,c6,c7,c8,c9,cz⟩:=h.cells;clear h;by_cases he:e=51
 · subst he
   go_enter Tryz.func48,Tryz.ntmps48;go_wp2;go_ret;exact⟨rfl,rfl⟩
 · have he':(e != 51)=true:=by simpa using he
   have HE:Hid (¬e=51):=he;clear he;go_enter Tryz.func48,Tryz.ntmps48;go_wp2;go_ret;exact⟨rfl,by first|rfl|rw[if_neg HE.out]⟩
set_option maxHeartbeats 1000000 in
theorem WLast_any(w:World)(b:Nat)(n:WN)(v:WV)(h:WalAt w b n v)(hs:n.first+n.many<18446744073709551616)(hm:n.many≤9223372036854775807):Calls Tryz.prog 30 #[.pointer (some ⟨b,0,none⟩)] w fun e w'=>e = .returned (.int .u64 (IntKind.u64.wrap (((n.first+n.many:Nat):Int)-1)))∧∃k,w'=w.drewN k:=by
 have HW:Hid (WalAt w b n v):=h;clear h;go_enter Tryz.func30,Tryz.ntmps30;go_wp2_with fail;refine(wend_any w b n v HW.out hs hm).mono ?_;rintro e w2 ⟨rfl,k,rfl⟩;obtain⟨m,hmm⟩:∃m,n.first+n.many=m:=⟨_,rfl⟩;rw[hmm];go_wp2_with fail;go_ret;exact⟨by rw[hmm];first|rfl|go_num,_,rfl⟩
def wantsN(sector tail:Nat):Bool:=decide (¬(0<sector∨0<tail)∨16≤sector)
set_option maxHeartbeats 1000000 in
theorem wants_any(w:World)(b:Nat)(n:WN)(v:WV)(h:WalAt w b n v):Calls Tryz.prog 78 #[.pointer (some ⟨b,5,none⟩)] w fun e w'=>e = .returned (.bool (wantsN n.sector n.tail))∧w'=w:=by
 obtain⟨c0,c1,c2,c3,c4,c5,c6,c7,c8,c9,cz⟩:=h.cells;clear h;by_cases h1:0<n.sector
 · have h1':(0:Int)<(n.sector:Int):=by omega
   by_cases h2:16≤n.sector
   · have h2':(16:Int)≤(n.sector:Int):=by omega
     have HE:Hid (wantsN n.sector n.tail=true):=decide_eq_true (.inr h2);go_enter Tryz.func78,Tryz.ntmps78;go_wp2;go_ret;exact⟨by rw[HE.out];rfl,rfl⟩
   · have h2':¬(16:Int)≤(n.sector:Int):=by omega
     have HE:Hid (wantsN n.sector n.tail=false):=decide_eq_false (by omega);go_enter Tryz.func78,Tryz.ntmps78;go_wp2;go_ret;exact⟨by rw[HE.out];rfl,rfl⟩
 · have h1':¬(0:Int)<(n.sector:Int):=by omega
   (have h2':¬(16:Int)≤(n.sector:Int):=by omega);by_cases h3:0<n.tail
   · have h3':(0:Int)<(n.tail:Int):=by omega
     have HE:Hid (wantsN n.sector n.tail=false):=decide_eq_false (by omega);go_enter Tryz.func78,Tryz.ntmps78;go_wp2;go_ret;exact⟨by rw[HE.out];rfl,rfl⟩
   · have h3':¬(0:Int)<(n.tail:Int):=by omega
     have HE:Hid (wantsN n.sector n.tail=true):=decide_eq_true (by omega);go_enter Tryz.func78,Tryz.ntmps78;go_wp2;go_ret;exact⟨by rw[HE.out];rfl,rfl⟩
end Go.Proofs.YthecngkdmnadoaaGreat
