import Derived.Test.YtobjpljdgieklaaGreatDoorFState2
import Derived.Test.YtobjpljdgieklaaGreatDoorJ17
import Derived.Test.YtobjpljdgieklaaGreatDoorJ10
namespace Go.Proofs.YtobjpljdgieklaaGreatDoor
open Go.RowKit Nums Fm
set_option maxRecDepth 100000
def zAl(l:List Pr):Int:=if 4096<l.length then 70 else zA7 none l
def zAg(l:List Pr):Int×List St:=if zAl l=0∧l≠[]then (least (ents l),(stF 25 [] (ents l)).1)else (0,[])
def StRow(B:Nat)(w:World)(vs:Value)(b:List St):Prop:=∃xss,GOwn 91 3 B w vs xss∧xss.length=b.length∧∀(i:Nat) (s:St),b[i]?=some s→∃va,xss[i]?=some [.bool s.final,.int .i64 s.out,va]∧AOwn B w va s.arcs
theorem StRow.nil(B:Nat)(w:World):StRow B w (.slice none 0 0) []:=⟨[],GOwn.nil _ _ _ _,rfl,fun i s hi=>by simp at hi⟩
theorem StRow.below{B:Nat}{w w':World}{vs:Value}{b:List St}(h:StRow B w vs b)(hb:Below w.heap.size w w'):StRow B w' vs b:=by
 obtain⟨xss,h1,h2,h3⟩:=h;refine⟨xss,h1.below hb,h2,fun i s hi=>?_⟩;obtain⟨va,h4,h5⟩:=h3 i s hi;exact⟨va,h4,GOwn.below h5 hb⟩
theorem StRow.mono{B B':Nat}{w:World}{vs:Value}{b:List St}(h:StRow B w vs b)(hb:B'≤B):StRow B' w vs b:=by
 obtain⟨xss,h1,h2,h3⟩:=h;refine⟨xss,h1.mono hb,h2,fun i s hi=>?_⟩;obtain⟨va,h4,h5⟩:=h3 i s hi;exact⟨va,h4,GOwn.mono h5 hb⟩
theorem zFw:∀(l:List Pr) (p:Option Pr),zA7 p l=0→∀x∈l,zAq x.1.data.toList=true∧1≤x.2∧x.2≤1048576
 |[],_,_,x,hx=>by cases hx
 |y::r,p,h,x,hx=>by
  rw[zA7]at h;by_cases h0:oneF p y=0
  · rw[if_pos h0]at h
    rcases List.mem_cons.1 hx with rfl|hx
    · unfold oneF at h0
      split at h0
      · cases h0
      · split at h0
        · cases h0
        · rename_i h1 h2
          exact⟨by simpa using h1,by omega,by omega⟩
    · exact zFw r _ h x hx
  · rw[if_neg h0]at h;exact absurd h h0
theorem zGn:∀(l:List Pr) (p:Option Pr),zA7 p l=0→(∀q,p=some q→∀x∈l,zAa q.1 x.1=true)∧l.Pairwise (fun a b=>zAa a.1 b.1=true)
 |[],_,_=>⟨fun q _ x hx=>(by cases hx),List.Pairwise.nil⟩
 |y::r,p,h=>by
  rw[zA7]at h;by_cases h0:oneF p y=0
  · rw[if_pos h0]at h
    obtain⟨h1,h2⟩:=zGn r (some y) h;have hp:zHr p y=true:=by
     unfold oneF at h0
     split at h0
     · cases h0
     · split at h0
       · cases h0
       · split at h0
         · cases h0
         · rename_i h;simpa using h
    refine⟨fun q hq x hx=>?_,List.pairwise_cons.2 ⟨fun x hx=>h1 y rfl x hx,h2⟩⟩;subst hq;rcases List.mem_cons.1 hx with rfl|hx
    · exact hp
    · exact lessB_sto.tr _ _ _ hp (h1 y rfl x hx)
  · rw[if_neg h0]at h;exact absurd h h0
theorem zA4{x:Pr}(h:zAq x.1.data.toList=true):∃xs,rs x.1.data.toList=some xs∧1≤xs.length∧xs.length≤24∧x.1.size≤96∧xs.all isR=true:=by
 have hw:=h;unfold zAq at h;cases hr:rs x.1.data.toList with
 |none=>rw[hr]at h;cases h
 |some xs=>
  rw[hr]at h;simp only[Bool.and_eq_true,decide_eq_true_eq]at h;have h1:=(rs_len hr).1;rw[zAj]at h1;exact⟨xs,rfl,h.1.1,h.1.2,by omega,(zEi hr).1⟩
structure DictOk(l:List Pr):Prop where
 wd:Wd l
 en:EnOk (ents l)
 rise:Rise (ents l)
 len:l.length≤4096
 pos:∀e∈ents l,e.1≠[]
theorem zB2{l:List Pr}(h:zAl l=0):DictOk l:=by
 unfold zAl at h
 split at h
 · cases h
 · rename_i hl
   have ha:=zFw l none h;have hR:=(zGn l none h).2;have hent:∀e∈ents l,∃x∈l,∃xs,rs x.1.data.toList=some xs∧e=(xs,x.2)∧1≤xs.length∧xs.length≤24∧xs.all isR=true:=fun e he=>by
    obtain⟨x,hx,rfl⟩:=List.mem_map.1 he;obtain⟨xs,h1,h2,h3,_,h4⟩:=zA4 (ha x hx).1;exact⟨x,hx,xs,h1,by rw[zCw,h1];rfl,h2,h3,h4⟩
   refine⟨fun x hx=>?_,⟨fun e he=>?_,fun e he c hc=>?_,fun e he=>?_⟩,?_,by omega,fun e he=>?_⟩
   · obtain⟨xs,h1,h2,h3,h4,_⟩:=zA4 (ha x hx).1
     exact⟨xs,h1,h3,h4⟩
   · obtain⟨x,hx,rfl⟩:=List.mem_map.1 he
     exact(ha x hx).2
   · obtain⟨x,hx,xs,h1,rfl,h2,h3,h4⟩:=hent e he
     have:=of_decide_eq_true (List.all_eq_true.1 h4 c hc);constructor<;>omega
   · obtain⟨x,hx,xs,h1,rfl,h2,h3,h4⟩:=hent e he
     exact h3
   · unfold Rise ents
     rw[List.pairwise_map];refine List.Pairwise.imp_of_mem ?_ hR;intro a b ha' hb' hab;obtain⟨xs,h1,_⟩:=zA4 (ha a ha').1;obtain⟨ys,h2,_⟩:=zA4 (ha b hb').1;rw[zCw,zCw,h1,h2];show lexL xs ys=true;rw[←order_rs h1 h2,←zKw];exact hab
   · obtain⟨x,hx,xs,h1,rfl,h2,h3,h4⟩:=hent e he
     exact List.length_pos_iff.1 (show 0<xs.length by omega)
theorem zO9{l:List En}(h:∀e∈l,e.1.length≤24):bulk l≤l.length*25:=by
 induction l with
 |nil=>simp[bulk]
 |cons e r ih=>
  have h1:=h e (by simp);have h2:=ih fun x hx=>h x (by simp[hx])
  rw[zEe,List.length_cons];omega
structure BuildSays(w w':World)(l:List Pr)(base:Int)(vs:Value)(b:List St):Prop where
 bel:Below w.heap.size w w'
 row:StRow w.heap.size w' vs b
 mach:zAg l=(base,b)
