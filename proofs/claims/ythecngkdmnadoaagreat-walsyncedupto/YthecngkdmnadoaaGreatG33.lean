/- Texts that were written apart, joined. -/
import Derived.Test.YthecngkdmnadoaaGreatG32
namespace Go.Proofs.YthecngkdmnadoaaGreat
open Go.RowKit
set_option maxRecDepth 100000
def recsR:Nat→LG→List Nat→Int×LG
 |0,g,_=>(0,g)
 |f+1,g,xs=>if ¬(bytesR xs 0 512).2.2=0 then (0,g)else if g.first+g.L.length=4611686018427387904 then (52,g)else recsR f { g with L:=g.L++[(bytesR xs 0 512).1] } (bytesR xs 0 512).2.1
theorem recsR_end{f:Nat}{g:LG}{xs:List Nat}(h:¬(bytesR xs 0 512).2.2=0):recsR (f+1) g xs=(0,g):=by rw[recsR,if_pos h]
theorem recsR_full{f:Nat}{g:LG}{xs:List Nat}(h:(bytesR xs 0 512).2.2=0)(h2:g.first+g.L.length=4611686018427387904):recsR (f+1) g xs=(52,g):=by rw[recsR,if_neg (by simp[h]),if_pos h2]
theorem recsR_go{f:Nat}{g:LG}{xs:List Nat}(h:(bytesR xs 0 512).2.2=0)(h2:¬g.first+g.L.length=4611686018427387904):recsR (f+1) g xs=recsR f { g with L:=g.L++[(bytesR xs 0 512).1] } (bytesR xs 0 512).2.1:=by rw[recsR,if_neg (by simp[h]),if_neg h2]
def headR(g:LG)(number ix:Nat):LG:=if g.l.length=0∨ix<g.first then { g with first:=ix,L:=[],l:=g.l++[(number,ix)] } else { g with L:=g.L.take (ix-g.first),l:=g.l++[(number,ix)] }
def takeG(g:LG)(number:Nat):Int×LG:=
 if ¬(askR (textS g.d.secs ((4*number+1:Nat):Int))).2.2=0 then (0,g)
 else if ¬(g.l.length=0∨(askR (textS g.d.secs ((4*number+1:Nat):Int))).1<g.first)∧g.first+g.L.length<(askR (textS g.d.secs ((4*number+1:Nat):Int))).1 then (52,g)
 else recsR ((askR (textS g.d.secs ((4*number+1:Nat):Int))).2.1.length+1) (headR g number (askR (textS g.d.secs ((4*number+1:Nat):Int))).1) (askR (textS g.d.secs ((4*number+1:Nat):Int))).2.1
theorem bytesR_less{xs:List Nat}(hx:∀x∈xs,x<256)(h:(bytesR xs 0 512).2.2=0):(bytesR xs 0 512).2.1.length<xs.length:=by
 unfold bytesR at h ⊢;rw[if_neg (by simp)]at h ⊢;by_cases h1:(front xs (mostN 512)).2.2≠0
 · rw[if_pos h1]at h
   have h':((front xs (mostN 512)).2.2:Int)=0:=h;exact absurd (by omega:(front xs (mostN 512)).2.2=0) h1
 · rw[if_neg h1]at h ⊢
   obtain⟨g1,g2,_⟩:=(front_facts xs (mostN 512) hx).1 (by simpa using h1);by_cases h2:xs.length-(front xs (mostN 512)).2.1<(front xs (mostN 512)).1
   · rw[if_pos h2]at h
     have h':(20:Int)=0:=h;omega
   · rw[if_neg h2]
     simp only[List.length_drop];omega
theorem askR_most{xs:List Nat}(hx:∀x∈xs,x<256):(askR xs).1≤4611686018427387904:=by
 unfold askR uintR;rw[if_neg (by simp)]
 split
 · simp
 · rename_i h
   exact((front_facts xs 4611686018427387904 hx).1 (by simpa using h)).2.2.2.2.1
theorem Rd.bytes{B:Nat}{w:World}{rb:Nat}{xs:List Nat}{e:Int}(h:Rd B w rb xs e):∀x∈xs,x<256:=by
 obtain⟨v,_,_,h3,_⟩:=h;exact h3
theorem askR_rest(xs:List Nat):(askR xs).2.1.length≤xs.length:=by
 unfold askR uintR;rw[if_neg (by simp)]
 split
 · exact Nat.le_refl _
 · simp only[List.length_drop];omega
theorem AskAt.only{B:Nat}{w w':World}{rb cb:Nat}{xs:List Nat}{e:Int}{F:List Nat}(h:AskAt B w rb cb xs e)(ho:Only F w w')(hr:B≤rb)(hc:B≤cb)(hF:∀k∈F,k<B∨(rb<k∧cb<k)):AskAt B w' rb cb xs e:=by
 obtain⟨⟨v,h1,h2,h3,h4,h5⟩,hcell,hne,hlt⟩:=h;have hrl:=(Array.getElem?_eq_some_iff.1 h1).1;refine⟨⟨v,(ho.block rb hrl (fun hm=>by have:=hF rb hm;omega)).trans h1,?_,h3,h4,h5⟩,?_,hne,Nat.lt_of_lt_of_le hlt ho.size⟩
 · obtain⟨ao,cap,e1,e2,e3,e4⟩:=h2
   refine⟨ao,cap,e1,e2,e3,fun h0=>?_⟩;obtain⟨b,off,e5,e6,e7⟩:=e4 h0;refine⟨b,off,e5,e6,fun i hi=>?_⟩;rw[←e7 i hi];have hb:w'.heap[b]?=w.heap[b]?:=ho.block b (by omega) (fun hm=>by
    have h6:=h5 h0 b off _ _ (by rw[e1,e5]);have:=hF b hm;omega)
   simp[World.cell?,hb]
 · rw[←hcell]
   have hb:w'.heap[cb]?=w.heap[cb]?:=ho.block cb hlt (fun hm=>by have:=hF cb hm;omega);simp[World.cell?,hb]
theorem WalAt.fresh{w:World}{b:Nat}{n:WN}{v:WV}(h:WalAt w b n v)(i:Nat):
 WalAt ((w.setCell ⟨b,1,none⟩ (.int .u64 (i:Int))).setCell ⟨b,2,none⟩ (.slice none 0 0)) b { n with first:=i,many:=0 } { v with ra:=none,rc:=0 }:=by
 have h1:=set_cell h 1 (.int .u64 (i:Int));have h2:=set_cell h1 2 (.slice none 0 0);exact h2
theorem Row.rd{N B:Nat}{W w':World}{u:Value}{xs:List Nat}{rb:Nat}{ys:List Nat}{e:Int}(h:Row N W u xs)(hr:Rd B W rb ys e)(hb:But rb W w')(hN:N≤W.heap.size):Row N w' u xs:=by
 obtain⟨ao,cap,e1,e2,e3,e4⟩:=h;obtain⟨v,h1,h2,_⟩:=hr;refine⟨ao,cap,e1,e2,e3,fun h0=>?_⟩;obtain⟨b,off,e5,e6,e7⟩:=e4 h0;have hne:b≠rb:=by
  rintro rfl;have h3:=e7 0 h0;obtain⟨va,vc,rfl,_⟩:=h2.shape;unfold World.cell? at h3;rw[h1]at h3;rcases Nat.lt_or_ge (off+0) 1 with h4|h4
  · have h5:off=0:=by omega
    subst h5;simp at h3
  · rcases Nat.lt_or_ge (off+0) 2 with h4|h4
    · have h5:off=1:=by omega
      subst h5;simp at h3
    · have h6:(#[Value.slice va ys.length vc,Value.int IntKind.i64 e]:Array Value)[off+0]?=none:=Array.getElem?_eq_none (by simpa using h4)
      simp only[h6]at h3;cases h3
 exact⟨b,off,e5,e6,fun i hi=>by rw[←e7 i hi];simp[World.cell?,hb.block b (by omega) hne]⟩
theorem RowX.rd{B:Nat}{W w':World}{F:List Nat}{u:Value}{xs:List Nat}{rb:Nat}{ys:List Nat}{e:Int}(h:RowX F W u xs)(hr:Rd B W rb ys e)(hb:But rb W w'):RowX F w' u xs:=⟨(h.1.rd hr hb (Nat.le_refl _)).mono hb.size,h.2⟩
theorem But.only{rb:Nat}{W w':World}(hb:But rb W w'):Only [rb] W w':=⟨hb.os,hb.tape,hb.output,hb.size,fun k hk hn=>hb.block k hk (fun e=>hn (by simp[e]))⟩
theorem LogAt.rd{N B:Nat}{W w':World}{b:Nat}{g:LG}{v:WV}{fp:List Nat}{s:List Sv}{rb:Nat}{ys:List Nat}{e:Int}(h:LogAt N W b g v fp s)(hr:Rd B W rb ys e)(hb:But rb W w')(hrb:rb∉logF b v fp):LogAt N w' b g v fp s:=by
 have ho:=hb.only;have hm:∀k,k∈logF b v fp→k≠rb:=fun k hk e=>hrb (e▸hk)
 refine⟨h.disk.apart ho (fun k hk hk2=>hm k (by simp[logF,hk]) (List.mem_singleton.1 hk2)),(hb.block b h.wal.lt (hm b (by simp[logF]))).trans h.wal,h.pl.only ho (fun ad n c e k hk hk2=>?_),h.recs.only ho (fun k hk hk2=>hm k (by simp[logF,hk]) (List.mem_singleton.1 hk2)),fun i x xs q1 q2=>(h.rows i x xs q1 q2).rd hr hb,h.tail.rd hr hb,h.bf,h.paf,h.raf⟩;simp only[Value.slice.injEq]at e;rw[←e.1]at hk;exact hm k (by simp[logF,hk]) (List.mem_singleton.1 hk2)
def Asked(B rb cb:Nat)(F:List Nat):Prop:=B≤rb∧B≤cb∧∀k∈F,k<B∨(rb<k∧cb<k)
theorem Asked.out{B rb cb:Nat}{F:List Nat}(h:Asked B rb cb F):rb∉F:=fun hm=>by have:=h.2.2 rb hm;have:=h.1;omega
theorem next_log(N B b rb cb:Nat)(g:LG)(v:WV)(fp:List Nat)(s:List Sv)(xs:List Nat)(W:World)(h:LogAt N W b g v fp s)(hk:AskAt B W rb cb xs 0)(ha:Asked B rb cb (logF b v fp)):
 Calls Tryz.prog 88 #[.pointer (some ⟨cb,0,none⟩)] W fun r w'=>∃sv:Sv,r = .returned (.tuple #[encS sv,.bool ((bytesR xs 0 512).2.2==0)])∧LogAt N w' b g v fp s∧AskAt B w' rb cb (bytesR xs 0 512).2.1 (bytesR xs 0 512).2.2∧RowX (logF b v fp) w' (encS sv) (bytesR xs 0 512).1∧Only [rb] W w':=by
 refine(askNext_any W rb cb xs 0 hk).mono ?_;rintro r w' ⟨u,rfl,hu,hk2,hb⟩;obtain⟨ua,uc,rfl,_⟩:=hu.row.shape;exact⟨(ua,_,uc),rfl,h.rd hk.1 hb ha.out,hk2,hu.rowX h.lt,hb.only⟩
theorem LogAt.fresh{N:Nat}{w:World}{b:Nat}{g:LG}{v:WV}{fp:List Nat}{s:List Sv}(h:LogAt N w b g v fp s)(ix:Nat):
 LogAt N ((w.setCell ⟨b,1,none⟩ (.int .u64 (ix:Int))).setCell ⟨b,2,none⟩ (.slice none 0 0)) b { g with first:=ix,L:=[] } { v with ra:=none,rc:=0 } fp []∧Only [b] w ((w.setCell ⟨b,1,none⟩ (.int .u64 (ix:Int))).setCell ⟨b,2,none⟩ (.slice none 0 0)):=by
 have ho:Only [b] w ((w.setCell ⟨b,1,none⟩ (.int .u64 (ix:Int))).setCell ⟨b,2,none⟩ (.slice none 0 0)):=((Only.refl [b] w).setCell (by simp) _ _).setCell (by simp) _ _;have hoF:Only (logF b v fp) w _:=ho.wider (fun k hk=>by simp[logF,List.mem_singleton.1 hk]);refine⟨⟨h.disk.apart ho (fun k hk hm=>h.bf (List.mem_singleton.1 hm▸hk)),h.wal.fresh ix,h.pl.only ho (fun ad n c e k hk hk2=>?_),SOwn.nil 0 _,fun i x xs q1=>by simp at q1,h.tail.step hoF (fun k hk => .inl ?_),h.bf,h.paf,fun k hk=>by simp[ownB]at hk⟩,ho⟩
 · simp only[Value.slice.injEq]at e
   rw[←e.1]at hk;exact(h.paf k hk).2 (List.mem_singleton.1 hk2)
 · simp only[logF,ownB,List.mem_cons,List.mem_append]at hk ⊢
   rcases hk with h1|h1|h1|h1
   · exact .inl h1
   · simp at h1
   · exact .inr (.inr (.inl h1))
   · exact .inr (.inr (.inr h1))
theorem LogAt.placed{N:Nat}{W Wa w9:World}{b:Nat}{g:LG}{v:WV}{fp:List Nat}{s:List Sv}{x:Pl}{a9:Option Addr}{c9:Nat}(h:LogAt N W b g v fp s)(hb:Below W.heap.size W Wa)(hq:QOwn 0 w9 (.slice a9 (g.l.length+1) c9) (g.l++[x]))(ho:Only (ownB v.pa) Wa w9)(ha:∀k∈ownB a9,k∈ownB v.pa∨Wa.heap.size≤k):
 LogAt N (w9.setCell ⟨b,3,none⟩ (.slice a9 (g.l.length+1) c9)) b { g with l:=g.l++[x] } { v with pa:=a9,pn:=g.l.length+1,pc:=c9 } fp s∧Only (logF b v fp) W (w9.setCell ⟨b,3,none⟩ (.slice a9 (g.l.length+1) c9))∧(∀k∈logF b { v with pa:=a9,pn:=g.l.length+1,pc:=c9 } fp,k∈logF b v fp∨W.heap.size≤k)∧w9.cell? ⟨b,3,none⟩=some (.slice v.pa v.pn v.pc)∧w9.frozen? ⟨b,3,none⟩=false:=by
 have h6:=h.below hb;have hw9:WalAt w9 b g.n v:=(ho.block b h6.wal.lt (fun hm=>(h6.paf b hm).2 rfl)).trans h6.wal;have hob:Only [b] w9 (w9.setCell ⟨b,3,none⟩ (.slice a9 (g.l.length+1) c9)):=(Only.refl [b] w9).setCell (by simp) _ _;have h12:Only (b::ownB v.pa) Wa (w9.setCell ⟨b,3,none⟩ (.slice a9 (g.l.length+1) c9)):=(ho.wider (fun k hk=>by simp[hk])).then hob (fun k hk=>by simp[List.mem_singleton.1 hk]);have hm:=begin_made (M':=N) (g':={ g with l:=g.l++[x] }) (ta:=v.ta) (tc:=v.tc) h (Only.of_below hb) (fun k hk => .inl hk) h6.disk h6.recs h6.tail h6.wal.lt h6.bf h6.paf h6.raf h12 (hw9.place a9 (g.l.length+1) c9) (hq.only hob (fun ad n c e k hk hk2=>by
  simp only[Value.slice.injEq]at e;rw[←e.1]at hk;rw[List.mem_singleton.1 hk2]at hk;rcases ha b hk with h1|h1
  · exact(h6.paf b h1).2 rfl
  · have:=h6.wal.lt;omega)) ha rfl (Nat.le_refl _)
 exact⟨hm.1,hm.2.1,hm.2.2,hw9.cells.2.2.2.1,hw9.cells.2.2.2.2.2.2.2.2.2.2 3⟩
theorem cut_log(N b i:Nat)(g:LG)(v:WV)(fp:List Nat)(s:List Sv)(W:World)(h:LogAt N W b g v fp s)(hi:g.first≤i)(hi2:i≤g.first+g.L.length)(hn:g.L.length<1099511627776):
 Calls Tryz.prog 67 #[.pointer (some ⟨b,0,none⟩),.int .u64 (i:Int)] W fun e w'=>e = .returned (.tuple #[])∧LogAt N w' b { g with L:=g.L.take (i-g.first) } v fp (s.take (i-g.first))∧Only (b::ownB v.ra) W w':=by
 refine(cut_any 0 b i g.n v s W h.wal h.recs hi hi2 hn (fun hm=>(h.raf b hm).2.1 rfl)).mono ?_;rintro e w' ⟨rfl,hw,hs,ho⟩;have hl:(g.L.take (i-g.first)).length=i-g.first:=by rw[List.length_take];omega
 have hoF:Only (logF b v fp) W w':=ho.wider (fun k hk=>by
  simp only[List.mem_cons]at hk;rcases hk with h|h<;>simp[logF,h])
 have hp:=LogAt.part (g':={ g with L:=g.L.take (i-g.first) }) (v':=v) (s':=s.take (i-g.first)) h hoF (h.disk.apart ho (fun k hk hm=>by
  simp only[List.mem_cons]at hm;rcases hm with rfl|h1
  · exact h.bf hk
  · exact(h.raf k h1).1 hk)) (fun k hk => .inl hk) (by
  show WalAt w' b (⟨g.first,(g.L.take (i-g.first)).length,g.next,g.area,g.sector,g.tl.length,g.adrift,g.fault⟩) _;rw[hl];exact hw) (h.pl.only ho (fun ad n c e k hk hm=>by
  simp only[Value.slice.injEq]at e;rw[←e.1]at hk;simp only[List.mem_cons]at hm;rcases hm with rfl|h1
  · exact(h.paf k hk).2 rfl
  · exact(h.raf k h1).2.2 hk)) (by
  show SOwn 0 w' (.slice v.ra (g.L.take (i-g.first)).length v.rc) _;rw[hl];exact hs) (fun a x xs q1 q2=>⟨a,take_some q1,take_some q2⟩) rfl rfl rfl rfl rfl rfl
 exact⟨rfl,hp.1,ho⟩
theorem logF_none(b:Nat)(v:WV)(fp:List Nat):∀k∈logF b { v with ra:=none,rc:=0 } fp,k∈logF b v fp:=fun k hk=>by
 simp only[logF,ownB,List.mem_cons,List.mem_append]at hk ⊢;rcases hk with h1|h1|h1|h1
 · exact .inl h1
 · simp at h1
 · exact .inr (.inr (.inl h1))
 · exact .inr (.inr (.inr h1))
theorem logF_ra(b:Nat)(v:WV)(fp:List Nat):∀k∈b::ownB v.ra,k∈logF b v fp:=fun k hk=>by
 simp only[List.mem_cons]at hk;rcases hk with h|h<;>simp[logF,h]
theorem new_cellN(w:World)(k:Nat)(v:Value)(t:TypeId):((w.drewN k).alloc (.cells #[v] t)).cell? ⟨w.heap.size,0,none⟩=some v:=by
 have h2:((w.drewN k).alloc (.cells #[v] t)).heap[w.heap.size]?=some (.cells #[v] t):=alloc_newQ (w.drewN k) (.cells #[v] t);simp only[World.cell?,h2];rfl
theorem WalAt.record{w:World}{b:Nat}{g:LG}{v:WV}(h:WalAt w b g.n v)(x:List Nat)(a:Option Addr)(c:Nat):WalAt (w.setCell ⟨b,2,none⟩ (.slice a (g.L.length+1) c)) b ({ g with L:=g.L++[x] }:LG).n { v with ra:=a,rc:=c }:=by
 have h1:=set_cell h 2 (.slice a (g.L.length+1) c);have e1:({ g with L:=g.L++[x] }:LG).n={ g.n with many:=g.L.length+1 }:=by simp[LG.n]
 rw[e1];exact h1
structure Ready(N b rb cb:Nat)(w w10:World)(v v2:WV)(fp:List Nat)(g2:LG)(s2:List Sv)(xs:List Nat)(e:Int):Prop where
 log:LogAt N w10 b g2 v2 fp s2
 only:Only (logF b v fp) w w10
 sub:∀k∈logF b v2 fp,k∈logF b v fp∨w.heap.size≤k
 ask:AskAt w.heap.size w10 rb cb xs e
 asked:Asked w.heap.size rb cb (logF b v2 fp)
 p:v2.p=v.p
theorem AskAt.cblt{B:Nat}{W:World}{rb cb:Nat}{xs:List Nat}{e:Int}(h:AskAt B W rb cb xs e):rb<W.heap.size∧cb<W.heap.size:=⟨h.1.lt,h.2.2.2⟩
theorem take_ready{N b rb cb:Nat}{w W w10:World}{v v1 v2:WV}{fp:List Nat}{g g2:LG}{s s2:List Sv}{xs:List Nat}(hL:LogAt N w b g v fp s)(hv:∀k∈logF b v1 fp,k∈logF b v fp)(ho:Only (logF b v fp) w W)(ha:AskAt w.heap.size W rb cb xs 0)(hr:w.heap.size≤rb)(hc:w.heap.size≤cb)
 (h10:LogAt N w10 b g2 v2 fp s2) (ho10:Only (logF b v1 fp) W w10) (hs:∀k∈logF b v2 fp,k∈logF b v1 fp∨W.heap.size≤k) (ep:v2.p=v.p):Ready N b rb cb w w10 v v2 fp g2 s2 xs 0:=by
 have hlt:=hL.lt;have hcl:=ha.cblt;refine⟨h10,ho.then ho10 hv,fun k hk=>?_,ha.only ho10 hr hc (fun k hk => .inl (hlt k (hv k hk))),⟨hr,hc,fun k hk=>?_⟩,ep⟩
 · rcases hs k hk with h|h
   · exact .inl (hv k h)
   · exact .inr (Nat.le_trans ho.size h)
 · rcases hs k hk with h|h
   · exact .inl (hlt k (hv k h))
   · exact .inr (by omega)
theorem Ready.next{N b rb cb:Nat}{w w10:World}{v v2:WV}{fp:List Nat}{g2:LG}{s2:List Sv}{xs:List Nat}(h:Ready N b rb cb w w10 v v2 fp g2 s2 xs 0):
 Calls Tryz.prog 88 #[.pointer (some ⟨cb,0,none⟩)] w10 fun r w'=>∃sv:Sv,r = .returned (.tuple #[encS sv,.bool ((bytesR xs 0 512).2.2==0)])∧Ready N b rb cb w w' v v2 fp g2 s2 (bytesR xs 0 512).2.1 (bytesR xs 0 512).2.2∧RowX (logF b v2 fp) w' (encS sv) (bytesR xs 0 512).1:=by
 refine(next_log N w.heap.size b rb cb g2 v2 fp s2 xs w10 h.log h.ask h.asked).mono ?_;rintro r w' ⟨sv,rfl,h1,h2,h3,h4⟩;exact⟨sv,rfl,⟨h1,h.only.trans h4 (fun k hk => .inr (by rw[List.mem_singleton.1 hk];exact h.asked.1)),h.sub,h2,h.asked,h.p⟩,h3⟩
theorem Ready.app{N b rb cb:Nat}{w w10 w6 w12:World}{v v2:WV}{fp:List Nat}{g2:LG}{s2:List Sv}{xs x:List Nat}{sv:Sv}{a9:Option Addr}{c9:Nat}(h:Ready N b rb cb w w10 v v2 fp g2 s2 xs 0)(hb6:Below w10.heap.size w10 w6)(hsv:RowX (logF b v2 fp) w6 (encS sv) x)
 (h12:Only (b::ownB v2.ra) w6 w12) (hw:WalAt w12 b ({ g2 with L:=g2.L++[x] }:LG).n { v2 with ra:=a9,rc:=c9 }) (hso:SOwn 0 w12 (.slice a9 (g2.L.length+1) c9) (s2++[sv])) (ha:∀k∈ownB a9,k∈ownB v2.ra∨w6.heap.size≤k):
 Ready N b rb cb w w12 v { v2 with ra:=a9,rc:=c9 } fp { g2 with L:=g2.L++[x] } (s2++[sv]) xs 0:=by
 have hm:=app_made h.log hb6 hsv h12 hw hso ha;have hcl:=h.ask.cblt;have ho:Only (logF b v2 fp) w10 w12:=hm.2.1;refine⟨hm.1,h.only.trans ho (fun k hk=>h.sub k hk),fun k hk=>?_,h.ask.only ho h.asked.1 h.asked.2.1 h.asked.2.2,⟨h.asked.1,h.asked.2.1,fun k hk=>?_⟩,h.p⟩
 · rcases hm.2.2 k hk with h1|h1
   · exact h.sub k h1
   · exact .inr (Nat.le_trans h.only.size h1)
 · rcases hm.2.2 k hk with h1|h1
   · exact h.asked.2.2 k h1
   · exact .inr (by omega)
end Go.Proofs.YthecngkdmnadoaaGreat

namespace Go.Proofs.YthecngkdmnadoaaGreat
open Go.RowKit
set_option maxRecDepth 100000
set_option maxHeartbeats 4000000 in
theorem take_any(N b number:Nat)(g:LG)(v:WV)(fp:List Nat)(s:List Sv)(w:World)(h:LogAt N w b g v fp s)(hok:LOk g)(hN:N<137438953472)(hnum:number≤1152921504606846976)(hsm:g.L.length<68719476736)
 (hB:∀i u,curOf g.d.secs ((4*number+1:Nat):Int) i=some u→∀y∈u,y<256):
 Calls Tryz.prog 39 #[.pointer (some ⟨b,0,none⟩),.int .u64 (number:Int)] w (LogSays N b (takeG g number) v fp w):=by
 have HL:Hid (LogAt N w b g v fp s):=h;have hask:=ask_any N v.p g.d fp number w h.disk (by omega) hnum hB;have hT:∀y∈textS g.d.secs ((4*number+1:Nat):Int),y<256:=textF_byte hB _ _;have hTl:(textS g.d.secs ((4*number+1:Nat):Int)).length≤4128768:=Nat.le_trans (textF_len _ _) (by decide);have hix:=askR_most hT;obtain⟨ix,rest,ae,hA⟩:∃ix rest ae,askR (textS g.d.secs ((4*number+1:Nat):Int))=(ix,rest,ae):=⟨_,_,_,rfl⟩;have HA:Hid (askR (textS g.d.secs ((4*number+1:Nat):Int))=(ix,rest,ae)):=hA;rw[hA]at hask hix
 dsimp only at hask hix
 obtain⟨c0,-,-,-,-,-,-,-,-,-,-⟩:=h.cells;have hrecs:=hok.recs;have hlast:=hok.last;have hmany:=hok.many;have HPN:Hid (v.pn=g.l.length):=h.len.2;clear h hok hA hT hB;by_cases h0:ae=0
 · subst h0
   have HAS:Hid (Calls Tryz.prog 66 #[.pointer (some ⟨v.p,0,none⟩),.int .u64 (number:Int)] w fun e w'=>Below w.heap.size w w'∧∃rb cb,e = .returned (.tuple #[.int .u64 (ix:Int),.func (.func 88) #[] #[.pointer (some ⟨cb,0,none⟩)],.bool true])∧w.heap.size≤rb∧w.heap.size≤cb∧AskAt w.heap.size w' rb cb rest 0):=by
    refine hask.mono ?_;rintro e w' ⟨h1,⟨h2,_⟩|⟨_,h2⟩⟩
    · exact absurd rfl h2
    · exact⟨h1,h2⟩
   have HE:Hid (∀W,LogAt N W b g v fp s→Calls Tryz.prog 55 #[.pointer (some ⟨b,0,none⟩)] W fun e w'=>e = .returned (.int .u64 ((g.first+g.L.length:Nat):Int))∧∃k,w'=W.drewN k):=fun W hW=>
    wend_any W b g.n v hW.wal (show g.first+g.L.length<_ by omega) (show g.L.length≤_ by omega)
   clear hask;by_cases hbad:¬g.l.length=0∧¬ix<g.first∧g.first+g.L.length<ix
   · obtain⟨q1,q2,q3⟩:=hbad
     (have hg:takeG g number=(52,g):=by unfold takeG;rw[HA.out,if_neg (by simp),if_pos (by simp only;omega)]);rw[hg];(have q1z:((v.pn:Int)==0)=false:=by have:=HPN.out;simpa using(by omega:¬(v.pn:Int)=0));(have q2z:¬(ix:Int)<(g.first:Int):=by omega);obtain⟨m,hm⟩:∃m,g.first+g.L.length=m:=⟨_,rfl⟩;rw[hm]at HE;(have q3z:(m:Int)<(ix:Int):=by omega);clear q1 q2 q3 hm hg;go_enter Tryz.func39,Tryz.ntmps39
     go_wp2_with (first
      |(go_at_call 66;refine HAS.out.mono ?_;rintro e w1 ⟨hb1,rb,cb,rfl,hrb,hcb,hask⟩;have H1:Hid (Below w.heap.size w w1):=hb1;obtain⟨-,d1,d2,d3,-,-,-,-,-,-,-⟩:=(HL.out.below hb1).cells;clear hb1 hask)
      |(go_at_call 55;refine(HE.out _ (HL.out.below H1.out)).mono ?_;rintro e w2 ⟨rfl,k2,rfl⟩))
     go_ret;refine HL.out.stays (belowN H1.out _) ?_;omega
   · have HBAD:Hid (takeG g number=recsR (rest.length+1) (headR g number ix) rest):=by
      show _=_;unfold takeG;rw[HA.out,if_neg (by simp),if_neg (by simp only;omega)]
     (have hcase:(g.l.length=0∨(¬g.l.length=0∧ix<g.first))∨(¬g.l.length=0∧¬ix<g.first∧¬g.first+g.L.length<ix):=by omega);clear hbad;rcases hcase with(q1|⟨q1,q2⟩)|⟨q1,q2,q3⟩
     focus
      have HH:Hid (headR g number ix={ g with first:=ix,L:=[],l:=g.l++[(number,ix)] }):=if_pos (.inl q1);(have q1z:((v.pn:Int)==0)=true:=by have:=HPN.out;simpa using(by omega:(v.pn:Int)=0));clear q1;go_enter Tryz.func39,Tryz.ntmps39
      go_wp2_with (first
       |(go_at_call 66;refine HAS.out.mono ?_;rintro e w1 ⟨hb1,rb,cb,rfl,hrb,hcb,hask⟩;have H1:Hid (Below w.heap.size w w1∧w.heap.size≤rb∧w.heap.size≤cb∧AskAt w.heap.size w1 rb cb rest 0):=⟨hb1,hrb,hcb,hask⟩;obtain⟨-,d1,d2,d3,-,-,-,-,-,-,dz⟩:=(HL.out.below hb1).cells;have HF1:=LogAt.fresh (HL.out.below hb1) ix;have HF:Hid (LogAt N ((w1.setCell ⟨b,1,none⟩ (.int .u64 (ix:Int))).setCell ⟨b,2,none⟩ (.slice none 0 0)) b { g with first:=ix,L:=[] } { v with ra:=none,rc:=0 } fp []∧Only [b] w1 ((w1.setCell ⟨b,1,none⟩ (.int .u64 (ix:Int))).setCell ⟨b,2,none⟩ (.slice none 0 0))):=HF1;clear hb1 hask hrb hcb HF1)
       |(at_builtin;obtain⟨W,hW⟩:∃W,(w1.setCell ⟨b,1,none⟩ (.int .u64 (ix:Int))).setCell ⟨b,2,none⟩ (.slice none 0 0)=W:=⟨_,rfl⟩;have hsz:w1.heap.size=W.heap.size:=(by rw[←hW];simp[World.setCell]);rw[hW]at HF ⊢;have hba:Below W.heap.size W (W.alloc (.cells #[.int .u64 (number:Int),.int .u64 (ix:Int)] 115)):=(Below.refl _ W).alloc (Nat.le_refl _) _;refine append_q1L rfl _ _ (number,ix) rfl w1.heap.size 1 v.pa v.pn v.pc g.l rfl (HF.out.1.pl.below hba) rfl (by rw[hsz];exact TwoQ.new W (number,ix) _) (by omega) ?_;intro a9 c9 w9 hq9 ho9 ha9;have HP:=LogAt.placed HF.out.1 hba hq9 ho9 ha9;have H9:Hid (Ready N b rb cb w (w9.setCell ⟨b,3,none⟩ (.slice a9 (g.l.length+1) c9)) v { v with ra:=none,rc:=0,pa:=a9,pn:=g.l.length+1,pc:=c9 } fp { g with first:=ix,L:=[],l:=g.l++[(number,ix)] } [] rest 0):=take_ready HL.out (v1:={ v with ra:=none,rc:=0 }) (logF_none b v fp) ((Only.of_below H1.out.1).then HF.out.2 (fun k hk=>by simp[logF,List.mem_singleton.1 hk])) (H1.out.2.2.2.only HF.out.2 H1.out.2.1 H1.out.2.2.1 (fun k hk => .inl (by rw[List.mem_singleton.1 hk];exact HL.out.wal.lt))) H1.out.2.1 H1.out.2.2.1 HP.1 HP.2.1 HP.2.2.1 rfl;obtain⟨-,-,-,e3,ez3⟩:=HP;clear hq9 ho9 ha9 hba d1 d2 d3 dz hsz hW HF))
      obtain⟨v2,hv2⟩:∃v2:WV,{ v with ra:=none,rc:=0,pa:=a9,pn:=g.l.length+1,pc:=c9 }=v2:=⟨_,rfl⟩;obtain⟨s2,hs2⟩:∃s2:List Sv,[]=s2:=⟨_,rfl⟩;rw[hv2,hs2,←HH.out]at H9;clear hv2 hs2 HH
     rotate_left
     focus
      have HH:Hid (headR g number ix={ g with first:=ix,L:=[],l:=g.l++[(number,ix)] }):=if_pos (.inr q2);(have q1z:((v.pn:Int)==0)=false:=by have:=HPN.out;simpa using(by omega:¬(v.pn:Int)=0));(have q2z:(ix:Int)<(g.first:Int):=by omega);clear q1 q2;go_enter Tryz.func39,Tryz.ntmps39
      go_wp2_with (first
       |(go_at_call 66;refine HAS.out.mono ?_;rintro e w1 ⟨hb1,rb,cb,rfl,hrb,hcb,hask⟩;have H1:Hid (Below w.heap.size w w1∧w.heap.size≤rb∧w.heap.size≤cb∧AskAt w.heap.size w1 rb cb rest 0):=⟨hb1,hrb,hcb,hask⟩;obtain⟨-,d1,d2,d3,-,-,-,-,-,-,dz⟩:=(HL.out.below hb1).cells;have HF1:=LogAt.fresh (HL.out.below hb1) ix;have HF:Hid (LogAt N ((w1.setCell ⟨b,1,none⟩ (.int .u64 (ix:Int))).setCell ⟨b,2,none⟩ (.slice none 0 0)) b { g with first:=ix,L:=[] } { v with ra:=none,rc:=0 } fp []∧Only [b] w1 ((w1.setCell ⟨b,1,none⟩ (.int .u64 (ix:Int))).setCell ⟨b,2,none⟩ (.slice none 0 0))):=HF1;clear hb1 hask hrb hcb HF1)
       |(at_builtin;obtain⟨W,hW⟩:∃W,(w1.setCell ⟨b,1,none⟩ (.int .u64 (ix:Int))).setCell ⟨b,2,none⟩ (.slice none 0 0)=W:=⟨_,rfl⟩;have hsz:w1.heap.size=W.heap.size:=(by rw[←hW];simp[World.setCell]);rw[hW]at HF ⊢;have hba:Below W.heap.size W (W.alloc (.cells #[.int .u64 (number:Int),.int .u64 (ix:Int)] 115)):=(Below.refl _ W).alloc (Nat.le_refl _) _;refine append_q1L rfl _ _ (number,ix) rfl w1.heap.size 1 v.pa v.pn v.pc g.l rfl (HF.out.1.pl.below hba) rfl (by rw[hsz];exact TwoQ.new W (number,ix) _) (by omega) ?_;intro a9 c9 w9 hq9 ho9 ha9;have HP:=LogAt.placed HF.out.1 hba hq9 ho9 ha9;have H9:Hid (Ready N b rb cb w (w9.setCell ⟨b,3,none⟩ (.slice a9 (g.l.length+1) c9)) v { v with ra:=none,rc:=0,pa:=a9,pn:=g.l.length+1,pc:=c9 } fp { g with first:=ix,L:=[],l:=g.l++[(number,ix)] } [] rest 0):=take_ready HL.out (v1:={ v with ra:=none,rc:=0 }) (logF_none b v fp) ((Only.of_below H1.out.1).then HF.out.2 (fun k hk=>by simp[logF,List.mem_singleton.1 hk])) (H1.out.2.2.2.only HF.out.2 H1.out.2.1 H1.out.2.2.1 (fun k hk => .inl (by rw[List.mem_singleton.1 hk];exact HL.out.wal.lt))) H1.out.2.1 H1.out.2.2.1 HP.1 HP.2.1 HP.2.2.1 rfl;obtain⟨-,-,-,e3,ez3⟩:=HP;clear hq9 ho9 ha9 hba d1 d2 d3 dz hsz hW HF))
      obtain⟨v2,hv2⟩:∃v2:WV,{ v with ra:=none,rc:=0,pa:=a9,pn:=g.l.length+1,pc:=c9 }=v2:=⟨_,rfl⟩;obtain⟨s2,hs2⟩:∃s2:List Sv,[]=s2:=⟨_,rfl⟩;rw[hv2,hs2,←HH.out]at H9;clear hv2 hs2 HH
     rotate_left
     focus
      have HH:Hid (headR g number ix={ g with L:=g.L.take (ix-g.first),l:=g.l++[(number,ix)] }):=if_neg (by omega);(have q1z:((v.pn:Int)==0)=false:=by have:=HPN.out;simpa using(by omega:¬(v.pn:Int)=0));(have q2z:¬(ix:Int)<(g.first:Int):=by omega);(have HCU:Hid (∀W,LogAt N W b g v fp s→Calls Tryz.prog 67 #[.pointer (some ⟨b,0,none⟩),.int .u64 (ix:Int)] W fun e w'=>e = .returned (.tuple #[])∧LogAt N w' b { g with L:=g.L.take (ix-g.first) } v fp (s.take (ix-g.first))∧Only (b::ownB v.ra) W w'):=fun W hW=>cut_log N b ix g v fp s W hW (by omega) (by omega) (by omega));obtain⟨m,hm⟩:∃m,g.first+g.L.length=m:=⟨_,rfl⟩;rw[hm]at HE;(have q3z:¬(m:Int)<(ix:Int):=by omega);clear q1 q2 q3 hm;go_enter Tryz.func39,Tryz.ntmps39
      go_wp2_with (first
       |(go_at_call 66;refine HAS.out.mono ?_;rintro e w1 ⟨hb1,rb,cb,rfl,hrb,hcb,hask⟩;have H1:Hid (Below w.heap.size w w1∧w.heap.size≤rb∧w.heap.size≤cb∧AskAt w.heap.size w1 rb cb rest 0):=⟨hb1,hrb,hcb,hask⟩;obtain⟨-,d1,d2,d3,-,-,-,-,-,-,dz⟩:=(HL.out.below hb1).cells;clear hb1 hask hrb hcb)
       |(go_at_call 55;refine(HE.out _ (HL.out.below H1.out.1)).mono ?_;rintro e w2 ⟨rfl,k2,rfl⟩;clear d1 d2 d3 dz)
       |(go_at_call 67;refine(HCU.out _ (HL.out.below (belowN H1.out.1 _))).mono ?_;rintro e W ⟨rfl,hLW,hoW⟩;have HF:Hid (LogAt N W b { g with L:=g.L.take (ix-g.first) } v fp (s.take (ix-g.first))∧Only (b::ownB v.ra) (w1.drewN k2) W):=⟨hLW,hoW⟩;obtain⟨-,d1,d2,d3,-,-,-,-,-,-,dz⟩:=hLW.cells;clear hLW hoW)
       |(at_builtin;have hba:Below W.heap.size W (W.alloc (.cells #[.int .u64 (number:Int),.int .u64 (ix:Int)] 115)):=(Below.refl _ W).alloc (Nat.le_refl _) _;refine append_q1L rfl _ _ (number,ix) rfl W.heap.size 1 v.pa v.pn v.pc g.l rfl (HF.out.1.pl.below hba) rfl (TwoQ.new W (number,ix) _) (by omega) ?_;intro a9 c9 w9 hq9 ho9 ha9;have HP:=LogAt.placed HF.out.1 hba hq9 ho9 ha9;have hoF:Only (b::ownB v.ra) w W:=(Only.of_below (belowN H1.out.1 k2)).then HF.out.2 (fun _ h=>h);have H9:Hid (Ready N b rb cb w (w9.setCell ⟨b,3,none⟩ (.slice a9 (g.l.length+1) c9)) v { v with pa:=a9,pn:=g.l.length+1,pc:=c9 } fp { g with L:=g.L.take (ix-g.first),l:=g.l++[(number,ix)] } (s.take (ix-g.first)) rest 0):=take_ready HL.out (v1:=v) (fun _ h=>h) (hoF.wider (logF_ra b v fp)) (AskAt.only (w:=w1.drewN k2) H1.out.2.2.2 HF.out.2 H1.out.2.1 H1.out.2.2.1 (fun k hk => .inl (HL.out.lt k (logF_ra b v fp k hk)))) H1.out.2.1 H1.out.2.2.1 HP.1 HP.2.1 HP.2.2.1 rfl;obtain⟨-,-,-,e3,ez3⟩:=HP;clear hq9 ho9 ha9 hba d1 d2 d3 dz HF hoF))
      obtain⟨v2,hv2⟩:∃v2:WV,{ v with pa:=a9,pn:=g.l.length+1,pc:=c9 }=v2:=⟨_,rfl⟩;obtain⟨s2,hs2⟩:∃s2:List Sv,s.take (ix-g.first)=s2:=⟨_,rfl⟩;rw[hv2,hs2,←HH.out]at H9;clear hv2 hs2 HH
     rotate_left
     all_goals
      obtain⟨w10,hw10⟩:∃w10,w9.setCell ⟨b,3,none⟩ (.slice a9 (g.l.length+1) c9)=w10:=⟨_,rfl⟩;rw[hw10]at H9 ⊢;clear hw10 e3 ez3 c0 hmany;refine(Ready.next H9.out).mono ?_;rintro r w11 ⟨sv0,rfl,hR,hrow⟩;obtain⟨g2,hg2⟩:∃g2,headR g number ix=g2:=⟨_,rfl⟩;have HG2:Hid (headR g number ix=g2∧g2.first≤4611686018427387904∧g2.L.length≤g.L.length):=by
       refine⟨hg2,?_⟩;rw[←hg2];unfold headR
       split
       · exact⟨hix,Nat.zero_le _⟩
       · exact⟨hlast,by simp only[List.length_take];omega⟩
      rw[hg2]at hR H9;have hrl:rest.length≤4128768:=by
       have h1:=askR_rest (textS g.d.secs ((4*number+1:Nat):Int));rw[HA.out]at h1;exact Nat.le_trans h1 hTl
      have HST:Hid (Ready N b rb cb w w11 v v2 fp g2 s2 (bytesR rest 0 512).2.1 (bytesR rest 0 512).2.2∧RowX (logF b v2 fp) w11 (encS sv0) (bytesR rest 0 512).1∧(∀y∈rest,y<256)):=⟨hR,hrow,H9.out.ask.1.bytes⟩;clear hR hrow hg2 HAS HE;clear H9 H1;go_wp2_with fail
      go_loopg [8,9] rest.length (fun m t8 t9 wr=>∃(f:Nat) (xs:List Nat) (v':WV) (s':List Sv) (g':LG) (sv:Sv),t8=encS sv∧t9 = .bool ((bytesR xs 0 512).2.2==0)∧xs.length≤m∧xs.length≤f∧g'.L.length+xs.length≤68723605504∧g'.first=g2.first∧Hid (Ready N b rb cb w wr v v' fp g' s' (bytesR xs 0 512).2.1 (bytesR xs 0 512).2.2∧RowX (logF b v' fp) wr (encS sv) (bytesR xs 0 512).1∧(∀y∈xs,y<256)∧recsR (f+1) g' xs=recsR (rest.length+1) g2 rest))
      case atStart=>exact⟨rest.length,rest,v2,s2,g2,sv0,rfl,rfl,Nat.le_refl _,Nat.le_refl _,by have:=HG2.out.2.2;omega,rfl,⟨HST.out.1,HST.out.2.1,HST.out.2.2,rfl⟩⟩
      case round=>
       clear HST;obtain⟨f,xs,v',s',g',sv,rfl,rfl,hm,hxf,hgx,hgf,H⟩:=hrel;have hgf2:=HG2.out.2.1;have HGF:Hid (g'.first=g2.first):=hgf;rw[←hgf]at hgf2;clear hgf;by_cases hb0:(bytesR xs 0 512).2.2=0
       · have hless:=bytesR_less H.out.2.2.1 hb0
         have HB0:Hid ((bytesR xs 0 512).2.2=0):=hb0;obtain⟨x1,xs2,be,hbx⟩:∃x1 xs2 be,bytesR xs 0 512=(x1,xs2,be):=⟨_,_,_,rfl⟩;have HBX:Hid (bytesR xs 0 512=(x1,xs2,be)):=hbx;rw[hbx]at hb0 hless H ⊢
         dsimp only at hb0 hless H ⊢
         subst hb0;clear hbx;have hwe:=wend_any wr b g'.n v' H.out.1.log.wal (show g'.first+g'.L.length<_ by omega) (show g'.L.length≤_ by omega);obtain⟨en,hen⟩:∃en,g'.first+g'.L.length=en:=⟨_,rfl⟩;have HEN:Hid (g'.first+g'.L.length=en):=hen;(have hwe2:Calls Tryz.prog 55 #[.pointer (some ⟨b,0,none⟩)] wr fun e w'=>e = .returned (.int .u64 (en:Int))∧∃k,w'=wr.drewN k:=by rw[←hen];exact hwe);have HWE:Hid (Calls Tryz.prog 55 #[.pointer (some ⟨b,0,none⟩)] wr fun e w'=>e = .returned (.int .u64 (en:Int))∧∃k,w'=wr.drewN k):=hwe2;clear hwe hwe2 hen;by_cases h62:en=4611686018427387904
         · have h62z:((en:Int)==4611686018427387904)=true:=by simp[h62]
           have H62:Hid (en=4611686018427387904):=h62;clear h62;go_wp2_with (go_at_call 55;refine HWE.out.mono ?_;rintro e w3 ⟨rfl,k3,rfl⟩);go_ret;have hg:takeG g number=(52,g'):=by
            rw[HBAD.out,HG2.out.1,←H.out.2.2.2];exact recsR_full HB0.out (by rw[HEN.out];exact H62.out)
           rw[hg];exact⟨rfl,v',fp,s',H.out.1.log.below (belowN (Below.refl _ _) _),H.out.1.p,H.out.1.only.drewN _,H.out.1.sub⟩
         · have h62z:((en:Int)==4611686018427387904)=false:=by simpa using(by omega:¬(en:Int)=4611686018427387904)
           have HRC:Hid (recsR f { g' with L:=g'.L++[x1] } xs2=recsR (rest.length+1) g2 rest):=by
            show _=_;rw[←H.out.2.2.2,recsR_go HB0.out (by rw[HEN.out];exact h62),HBX.out]
           clear h62;obtain⟨sa,sn,sc⟩:=sv;have he:encS (sa,sn,sc) = .slice sa sn sc:=rfl;rw[he];clear he;have hsl:s'.length=g'.L.length:=H.out.1.log.len.1;obtain⟨-,-,q2,-,-,-,-,-,-,-,qz⟩:=H.out.1.log.cells
           go_wp2_with (first
            |(go_at_call 55;refine HWE.out.mono ?_;rintro e w3 ⟨rfl,k3,rfl⟩)
            |(at_builtin;have hba:Below wr.heap.size wr ((wr.drewN k3).alloc (.cells #[.slice sa sn sc] 34)):=(belowN (Below.refl _ wr) k3).alloc (Nat.le_refl _) _;obtain⟨w6,hw6⟩:∃w6,(wr.drewN k3).alloc (.cells #[.slice sa sn sc] 34)=w6:=⟨_,rfl⟩;have hx6:w6.cell? ⟨wr.heap.size,0,none⟩=some (encS (sa,sn,sc)):=(by rw[←hw6];exact new_cellN wr k3 _ _);rw[hw6]at hba ⊢;refine append_s1L rfl _ _ (sa,sn,sc) rfl wr.heap.size 1 v'.ra g'.L.length v'.rc s' rfl (H.out.1.log.below hba).recs rfl hx6 (by omega) ?_;intro a8 c8 w8 hq8 ho8 ha8;rw[hsl]at hq8 ⊢;have hw8:WalAt w8 b g'.n v':=(ho8.block b (H.out.1.log.below hba).wal.lt (fun hm=>(H.out.1.log.raf b hm).2.1 rfl)).trans (H.out.1.log.below hba).wal;have hob:Only [b] w8 (w8.setCell ⟨b,2,none⟩ (.slice a8 (g'.L.length+1) c8)):=(Only.refl [b] w8).setCell (by simp) _ _;have HR12:Hid (Ready N b rb cb w (w8.setCell ⟨b,2,none⟩ (.slice a8 (g'.L.length+1) c8)) v { v' with ra:=a8,rc:=c8 } fp { g' with L:=g'.L++[x1] } (s'++[(sa,sn,sc)]) xs2 0):=Ready.app H.out.1 hba (H.out.2.1.step (Only.of_below hba) (fun k hk => .inl hk)) ((ho8.wider (fun k hk=>by simp[hk])).then hob (fun k hk=>by simp[List.mem_singleton.1 hk])) (hw8.record x1 a8 c8) (hq8.only hob (fun k hk hm=>by rw[List.mem_singleton.1 hm]at hk;rcases ha8 b hk with h|h;exact(H.out.1.log.raf b h).2.1 rfl;have:=(H.out.1.log.below hba).wal.lt;omega)) ha8;have e2:=hw8.cells.2.2.1;have ez2:=hw8.cells.2.2.2.2.2.2.2.2.2.2 2;clear hq8 ho8 ha8 hw8 hob hba hx6 hw6 q2 qz))
           obtain⟨w12,hw12⟩:∃w12,w8.setCell ⟨b,2,none⟩ (.slice a8 (g'.L.length+1) c8)=w12:=⟨_,rfl⟩;rw[hw12]at HR12 ⊢;clear hw12 e2 ez2;refine(Ready.next HR12.out).mono ?_;rintro r w13 ⟨sv2,rfl,hR2,hrow2⟩;have HN13:Hid (Ready N b rb cb w w13 v { v' with ra:=a8,rc:=c8 } fp { g' with L:=g'.L++[x1] } (s'++[(sa,sn,sc)]) (bytesR xs2 0 512).2.1 (bytesR xs2 0 512).2.2∧RowX (logF b { v' with ra:=a8,rc:=c8 } fp) w13 (encS sv2) (bytesR xs2 0 512).1∧(∀y∈xs2,y<256)):=⟨hR2,hrow2,HR12.out.ask.1.bytes⟩;clear hR2 hrow2;obtain⟨F,rfl⟩:∃F,f=F+1:=⟨f-1,by omega⟩;go_wp2_with fail;go_roundg xs2.length;(case measure=>omega);case rel=>exact⟨F,xs2,{ v' with ra:=a8,rc:=c8 },s'++[(sa,sn,sc)],{ g' with L:=g'.L++[x1] },sv2,rfl,rfl,Nat.le_refl _,by omega,by simp only[List.length_append,List.length_singleton];omega,HGF.out,⟨HN13.out.1,HN13.out.2.1,HN13.out.2.2,HRC.out⟩⟩
       · have hbz:((bytesR xs 0 512).2.2==0)=false:=by simpa using hb0
         have HRC:Hid (recsR (rest.length+1) g2 rest=(0,g')):=by
          show _=_;rw[←H.out.2.2.2];exact recsR_end hb0
         rw[hbz];clear hbz hb0;go_wp2_with fail;go_ret;(have hg:takeG g number=(0,g'):=by rw[HBAD.out,HG2.out.1];exact HRC.out);rw[hg];exact⟨rfl,v',fp,s',H.out.1.log,H.out.1.p,H.out.1.only,H.out.1.sub⟩
 · have hne:¬ae=0:=h0
   (have hg:takeG g number=(0,g):=by unfold takeG;rw[HA.out,if_pos hne]);rw[hg];have HAS:Hid (Calls Tryz.prog 66 #[.pointer (some ⟨v.p,0,none⟩),.int .u64 (number:Int)] w fun e w'=>Below w.heap.size w w'∧e = .returned (.tuple #[.int .u64 0,.nilFunc,.bool false])):=by
    refine hask.mono ?_;rintro e w' ⟨h1,⟨_,h2⟩|⟨h2,_⟩⟩
    · exact⟨h1,h2⟩
    · exact absurd h2 hne
   clear hg h0 hask;go_enter Tryz.func39,Tryz.ntmps39;go_wp2_with (go_at_call 66;refine HAS.out.mono ?_;rintro e w1 ⟨hb1,rfl⟩);go_ret;refine HL.out.stays hb1 ?_;omega
end Go.Proofs.YthecngkdmnadoaaGreat
