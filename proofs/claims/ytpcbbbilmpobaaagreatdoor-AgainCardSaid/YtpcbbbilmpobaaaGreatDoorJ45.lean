import Derived.Test.YtpcbbbilmpobaaaGreatDoorJ27
import Derived.Test.YtpcbbbilmpobaaaGreatDoorJ44
import Derived.Test.YtpcbbbilmpobaaaGreatDoorJ25
import Derived.Test.YtpcbbbilmpobaaaGreatDoorJ43
import Derived.Test.YtpcbbbilmpobaaaGreatDoorJ12
set_option linter.unusedVariables false
set_option linter.unusedSimpArgs false
set_option linter.unnecessarySimpa false
set_option maxRecDepth 100000
set_option maxHeartbeats 8000000
namespace Go.Proofs.YtpcbbbilmpobaaaGreatDoor
open Go.RowKit
theorem ksame_eq(w:World)(p1 p2:Nat)(V1 V2:V6)(m1 m2:Mach)(h1:PR [] w p1 V1 m1)(h2:PR [] w p2 V2 m2)(ok1:MOK m1)(ok2:MOK m2)(a:Option Addr)(k cap:Nat)(L:List LBL)(hL:LR w (.slice a k cap) L)(hv:LV L)(hcap:L.length≤cap)
 (he:hitsA m1 L=hitsA m2 L) (hlen:(hitsA m1 L).length≤1000) (hbl:∀ x∈hitsA m1 L,x.bl.length≤1000) :
 Calls Tryz.prog 13 #[.pointer (some ⟨p1,0,none⟩), .pointer (some ⟨p2,0,none⟩), .slice a k cap] w fun e w'=>e=.returned (.bool true)∧Frm [] w w':=by
 have N1:=hide (route_any w p1 V1 m1 h1 ok1 a k cap L hL hv hcap);have N2:Hid (∀ W,Frm [] w W→Calls Tryz.prog 19 #[.pointer (some ⟨p2,0,none⟩), .slice a k cap] W (ROQ m2 L W)):=fun W f=>route_any W p2 V2 m2 (h2.frm f (by simp)) ok2 a k cap L (hL.frm f (by simp)) hv hcap
 have HE:=hide he;have HBL:=hide hbl;have HLN:=hide hlen;clear h1 h2 ok1 ok2 hL hv he hbl hlen;go_enter Tryz.func13,Tryz.ntmps13
 go_wp2_with fail
 refine (N1.out).mono ?_;clear N1;rintro e w1 ⟨hF,⟨hl,rfl⟩|⟨hl,vh,rfl,hH⟩⟩
 ·have F:=hide hF
  have N3:Hid (Calls Tryz.prog 19 #[.pointer (some ⟨p2,0,none⟩), .slice a k cap] w1 fun e w'=>Frm [] w1 w'∧e=.returned (.tuple #[.slice none 0 0, .int .i64 8])):=by
   refine (N2.out w1 hF).mono ?_;rintro e w2 ⟨hF2,⟨_,rfl⟩|⟨h,_⟩⟩
   ·exact ⟨hF2,rfl⟩
   ·rw[hl]at h;cases h
  clear hF hl N2;go_wp2_with fail
  refine (N3.out).mono ?_;clear N3;rintro e w2 ⟨hF2,rfl⟩;have F2:=hide (F.out.trans hF2);have N4:=hide (ksameHits_eq w2 _ _ [] (HRS.nil _) (HRS.nil _) (by simp) (by simp));clear hF2;go_wp2_with fail
  refine (N4.out).mono ?_;clear N4;rintro e w3 ⟨rfl,q,rfl⟩;go_wp2;go_ret;exact ⟨rfl,F2.out.drewN q⟩
 ·have F:=hide hF
  have HH:=hide hH;have N3:Hid (Calls Tryz.prog 19 #[.pointer (some ⟨p2,0,none⟩), .slice a k cap] w1 fun e w'=>Frm [] w1 w'∧∃ v,e=.returned (.tuple #[v, .int .i64 0])∧HRS w' v (hitsA m1 L)):=by
   refine (N2.out w1 hF).mono ?_;rintro e w2 ⟨hF2,⟨h,_⟩|⟨_,v2,rfl,hH2⟩⟩
   ·rw[hl]at h;cases h
   ·exact ⟨hF2,v2,rfl,by rw[HE.out];exact hH2⟩
  obtain ⟨ah,ch,rfl,_,_⟩:=hH;clear hF hl N2;go_wp2_with fail
  refine (N3.out).mono ?_;clear N3;rintro e w2 ⟨hF2,v2,rfl,hH2⟩;have F2:=hide (F.out.trans hF2);have N4:=hide (ksameHits_eq w2 _ _ _ (HH.out.frm hF2) hH2 HLN.out HBL.out);obtain ⟨ah2,ch2,rfl,_,_⟩:=hH2;clear hF2;go_wp2_with fail
  refine (N4.out).mono ?_;clear N4;rintro e w3 ⟨rfl,q,rfl⟩;go_wp2;go_ret;exact ⟨rfl,F2.out.drewN q⟩
def knT0:List UInt8:=[114,101,99,101,105,118,101,114,115,32,114,32,97,32,98,32,99,32,100,10,114,111,117,116,101,32,114,10,32,114,111,117,116,101,32,97,32,105,102,32,120,61,34,49,34,10,32,32,114,111,117,116,101,32,98,32,105,102,32,121,61,34,49,34,32,99,111,110,116,105,110,117,101,10,32,32,114,111,117,116,101,32,99,32,105,102,32,121,61,126,34,49,124,50,34,10,32,114,111,117,116,101,32,100,32,105,102,32,120,33,61,34,34,32,99,111,110,116,105,110,117,101,10,32,114,111,117,116,101,32,45,32,119,97,105,116,32,49,32,105,102,32,120,61,126,34,91,49,51,93,34,10]
def knT1:List UInt8:=[114,101,99,101,105,118,101,114,115,32,114,32,97,10,114,111,117,116,101,32,114,32,98,121,32,108,32,119,97,105,116,32,49,10,32,114,111,117,116,101,32,45,32,119,97,105,116,32,50,10,32,32,114,111,117,116,101,32,97,32,98,121,32,45,32,101,118,101,114,121,32,51,10,32,32,32,114,111,117,116,101,32,45,32,114,101,112,101,97,116,32,52,32,105,102,32,107,61,34,34,10]
def knT2:List UInt8:=[114,101,99,101,105,118,101,114,115,32,114,32,97,10,114,111,117,116,101,32,114,32,98,121,32,108,10,32,114,111,117,116,101,32,97,32,105,102,32,115,61,126,34,40,97,124,98,41,42,97,98,98,34,10]
def knT3:List UInt8:=[114,101,99,101,105,118,101,114,115,32,114,32,97,10,114,111,117,116,101,32,114,10,32,114,111,117,116,101,32,97,32,105,102,32,115,61,126,34,92,92,46,91,94,120,45,122,93,123,50,44,51,125,92,120,48,48,63,34,10]
def knT4:List UInt8:=[114,101,99,101,105,118,101,114,115,32,114,32,97,10,114,111,117,116,101,32,114,10,32,114,111,117,116,101,32,97,32,105,102,32,115,61,126,34,46,46,34,10]
def knT5:List UInt8:=[114,101,99,101,105,118,101,114,115,32,114,32,97,32,98,10,114,111,117,116,101,32,114,10,32,114,111,117,116,101,32,45,10,32,32,114,111,117,116,101,32,45,10,32,32,32,114,111,117,116,101,32,97,10,32,32,32,114,111,117,116,101,32,98,10,32,32,114,111,117,116,101,32,98,10]
def knT6:List UInt8:=[114,101,99,101,105,118,101,114,115,32,114,32,97,32,98,10,114,111,117,116,101,32,114,10,32,114,111,117,116,101,32,45,10,32,32,114,111,117,116,101,32,45,32,99,111,110,116,105,110,117,101,10,32,32,32,114,111,117,116,101,32,97,32,99,111,110,116,105,110,117,101,10,32,32,32,32,114,111,117,116,101,32,45,10,32,32,32,114,111,117,116,101,32,98,10,32,32,114,111,117,116,101,32,98,10]
def knT7:List UInt8:=[114,101,99,101,105,118,101,114,115,32,114,32,97,10,114,111,117,116,101,32,114,10,32,114,111,117,116,101,32,97,32,105,102,32,115,33,126,34,34,32,105,102,32,115,33,61,34,113,34,10]
def knD:List (List UInt8 × List LBL × List UInt8):=[
 (knT0,[],[114,32,51,48,32,51,48,48,32,49,52,52,48,48,59]),
 (knT0,[([120],[49])],[97,32,51,48,32,51,48,48,32,49,52,52,48,48,59]),
 (knT0,[([120],[49]),([121],[49])],[98,32,51,48,32,51,48,48,32,49,52,52,48,48,59,99,32,51,48,32,51,48,48,32,49,52,52,48,48,59]),
 (knT0,[([121],[50]),([120],[49])],[99,32,51,48,32,51,48,48,32,49,52,52,48,48,59]),
 (knT0,[([120],[50])],[100,32,51,48,32,51,48,48,32,49,52,52,48,48,59]),
 (knT0,[([120],[51])],[100,32,51,48,32,51,48,48,32,49,52,52,48,48,59,114,32,49,32,51,48,48,32,49,52,52,48,48,59]),
 (knT0,[([121],[49])],[114,32,51,48,32,51,48,48,32,49,52,52,48,48,59]),
 (knT1,[],[97,32,50,32,51,32,52,59]),
 (knT1,[([107],[118])],[97,32,50,32,51,32,49,52,52,48,48,59]),
 (knT2,[([115],[97,98,97,98,98])],[97,32,108,32,51,48,32,51,48,48,32,49,52,52,48,48,59]),
 (knT2,[([115],[97,98,98,97])],[114,32,108,32,51,48,32,51,48,48,32,49,52,52,48,48,59]),
 (knT3,[([115],[46,97,98,0])],[97,32,51,48,32,51,48,48,32,49,52,52,48,48,59]),
 (knT4,[([115],[10,255])],[97,32,51,48,32,51,48,48,32,49,52,52,48,48,59]),
 (knT5,[],[97,32,51,48,32,51,48,48,32,49,52,52,48,48,59]),
 (knT6,[],[97,32,51,48,32,51,48,48,32,49,52,52,48,48,59,98,32,51,48,32,51,48,48,32,49,52,52,48,48,59,98,32,51,48,32,51,48,48,32,49,52,52,48,48,59]),
 (knT7,[([115],[113])],[114,32,51,48,32,51,48,48,32,49,52,52,48,48,59])]
theorem allocs_at:∀ (os:List Obj) (w:World) (i:Nat) (o:Obj),os[i]?=some o→(os.foldl World.alloc w).heap[w.heap.size+i]?=some o
 | [],_,i,o,h=>by simp at h
 | x::r,w,0,o,h=>by
   simp only[List.getElem?_cons_zero,Option.some.injEq]at h;subst h;have keep:∀ (os:List Obj) (w:World) (k:Nat) (o:Obj),w.heap[k]?=some o→(os.foldl World.alloc w).heap[k]?=some o:=by
    intro os
    induction os with
    | nil=>intro w k o h;exact h
    | cons y s ih =>
      intro w k o h;refine ih _ k o ?_;rw[((Frm.refl [] w).alloc y).block k (Array.getElem?_eq_some_iff.1 h).1 (by simp)];exact h
   exact keep r _ _ _ (heap_alloc_new w x)
 | x::r,w,i+1,o,h=>by
   have:=allocs_at r (w.alloc x) i o (by simpa using h);rw[show (w.alloc x).heap.size=w.heap.size+1 by simp]at this;rw[show w.heap.size+(i+1)=w.heap.size+1+i by omega];exact this
theorem allocs_frm:∀ (os:List Obj) (w:World),Frm [] w (os.foldl World.alloc w)
 | [],w=>Frm.refl _ _
 | x::r,w=>((Frm.refl [] w).alloc x).trans (allocs_frm r (w.alloc x))
def KN(w:World)(g:Nat):Prop:=∀ k x,knD[k]?=some x→∃ a cap,w.cell? ⟨g,k*3,none⟩=some (.string (bs x.1))∧w.cell? ⟨g,k*3+1,none⟩=some (.slice a x.2.1.length cap)∧LR w (.slice a x.2.1.length cap) x.2.1∧x.2.1.length≤cap∧w.cell? ⟨g,k*3+2,none⟩=some (.string (bs x.2.2))
def knOs(b:Nat):List Obj:=[
 .cells #[.string (bs [120]), .string (bs [49])] 29,
 .cells #[.string (bs [120]), .string (bs [49]), .string (bs [121]), .string (bs [49])] 29,
 .cells #[.string (bs [121]), .string (bs [50]), .string (bs [120]), .string (bs [49])] 29,
 .cells #[.string (bs [120]), .string (bs [50])] 29,
 .cells #[.string (bs [120]), .string (bs [51])] 29,
 .cells #[.string (bs [121]), .string (bs [49])] 29,
 .cells #[.string (bs [107]), .string (bs [118])] 29,
 .cells #[.string (bs [115]), .string (bs [97,98,97,98,98])] 29,
 .cells #[.string (bs [115]), .string (bs [97,98,98,97])] 29,
 .cells #[.string (bs [115]), .string (bs [46,97,98,0])] 29,
 .cells #[.string (bs [115]), .string (bs [10,255])] 29,
 .cells #[.string (bs [115]), .string (bs [113])] 29,
 .cells #[.string (bs knT0), .slice none 0 0, .string (bs [114,32,51,48,32,51,48,48,32,49,52,52,48,48,59]),
  .string (bs knT0), .slice (some ⟨b+0,0,none⟩) 1 1, .string (bs [97,32,51,48,32,51,48,48,32,49,52,52,48,48,59]),
  .string (bs knT0), .slice (some ⟨b+1,0,none⟩) 2 2, .string (bs [98,32,51,48,32,51,48,48,32,49,52,52,48,48,59,99,32,51,48,32,51,48,48,32,49,52,52,48,48,59]),
  .string (bs knT0), .slice (some ⟨b+2,0,none⟩) 2 2, .string (bs [99,32,51,48,32,51,48,48,32,49,52,52,48,48,59]),
  .string (bs knT0), .slice (some ⟨b+3,0,none⟩) 1 1, .string (bs [100,32,51,48,32,51,48,48,32,49,52,52,48,48,59]),
  .string (bs knT0), .slice (some ⟨b+4,0,none⟩) 1 1, .string (bs [100,32,51,48,32,51,48,48,32,49,52,52,48,48,59,114,32,49,32,51,48,48,32,49,52,52,48,48,59]),
  .string (bs knT0), .slice (some ⟨b+5,0,none⟩) 1 1, .string (bs [114,32,51,48,32,51,48,48,32,49,52,52,48,48,59]),
  .string (bs knT1), .slice none 0 0, .string (bs [97,32,50,32,51,32,52,59]),
  .string (bs knT1), .slice (some ⟨b+6,0,none⟩) 1 1, .string (bs [97,32,50,32,51,32,49,52,52,48,48,59]),
  .string (bs knT2), .slice (some ⟨b+7,0,none⟩) 1 1, .string (bs [97,32,108,32,51,48,32,51,48,48,32,49,52,52,48,48,59]),
  .string (bs knT2), .slice (some ⟨b+8,0,none⟩) 1 1, .string (bs [114,32,108,32,51,48,32,51,48,48,32,49,52,52,48,48,59]),
  .string (bs knT3), .slice (some ⟨b+9,0,none⟩) 1 1, .string (bs [97,32,51,48,32,51,48,48,32,49,52,52,48,48,59]),
  .string (bs knT4), .slice (some ⟨b+10,0,none⟩) 1 1, .string (bs [97,32,51,48,32,51,48,48,32,49,52,52,48,48,59]),
  .string (bs knT5), .slice none 0 0, .string (bs [97,32,51,48,32,51,48,48,32,49,52,52,48,48,59]),
  .string (bs knT6), .slice none 0 0, .string (bs [97,32,51,48,32,51,48,48,32,49,52,52,48,48,59,98,32,51,48,32,51,48,48,32,49,52,52,48,48,59,98,32,51,48,32,51,48,48,32,49,52,52,48,48,59]),
  .string (bs knT7), .slice (some ⟨b+11,0,none⟩) 1 1, .string (bs [114,32,51,48,32,51,48,48,32,49,52,52,48,48,59])] 39]
theorem knowns_raw(w:World) :
 Calls Tryz.prog 8 #[] w fun e w'=>w'=(knOs w.heap.size).foldl World.alloc w∧e=.returned (.slice (some ⟨w.heap.size+12,0,none⟩) 16 16):=by
 go_enter Tryz.func8,Tryz.ntmps8
 go_wp2;go_ret;exact ⟨rfl,rfl⟩
theorem kn_lr{w:World}{b:Nat}{L:List LBL}{ty:TypeId}(h:w.heap[b]?=some (.cells (L.flatMap fun x=>[.string (bs x.1), .string (bs x.2)]).toArray ty (0,0)))(hL:L.length≤1048576):LR w (.slice (some ⟨b,0,none⟩) L.length L.length) L:=by
 refine ⟨_,L.length,rfl,hL,fun j hj=>⟨b,0,rfl,(Array.getElem?_eq_some_iff.1 h).1,?_,?_⟩⟩
 ·have:∀ (L:List LBL) (j:Nat) (hj:j<L.length),(L.flatMap fun x=>[Value.string (bs x.1), .string (bs x.2)])[j*2]?=some (.string (bs L[j].1)):=by
   intro L
   induction L with
   | nil=>intro j hj;simp at hj
   | cons x r ih =>
     intro j hj;cases j with
     | zero=>rfl
     | succ j =>
       rw[show (j+1)*2=j*2+1+1 by omega];simpa using ih j (by simpa using hj)
  simp[World.cell?,h,this L j hj]
 ·have:∀ (L:List LBL) (j:Nat) (hj:j<L.length),(L.flatMap fun x=>[Value.string (bs x.1), .string (bs x.2)])[j*2+1]?=some (.string (bs L[j].2)):=by
   intro L
   induction L with
   | nil=>intro j hj;simp at hj
   | cons x r ih =>
     intro j hj;cases j with
     | zero=>rfl
     | succ j =>
       rw[show (j+1)*2+1=(j*2+1)+1+1 by omega];simpa using ih j (by simpa using hj)
  simp[World.cell?,h,this L j hj]
theorem knowns_any(w:World) :
 Calls Tryz.prog 8 #[] w fun e w'=>Frm [] w w'∧∃ g,e=.returned (.slice (some ⟨g,0,none⟩) 16 16)∧g<w'.heap.size∧KN w' g:=by
 refine (knowns_raw w).mono ?_;rintro e w' ⟨rfl,rfl⟩;have at':=fun i o h=>allocs_at (knOs w.heap.size) w i o h
 refine ⟨allocs_frm _ _,_,rfl,?_,?_⟩
 ·exact (Array.getElem?_eq_some_iff.1 (at' 12 _ rfl)).1
 ·have hB:=at' 12 _ rfl
  have h0:=at' 0 _ rfl;have h1:=at' 1 _ rfl;have h2:=at' 2 _ rfl;have h3:=at' 3 _ rfl;have h4:=at' 4 _ rfl;have h5:=at' 5 _ rfl;have h6:=at' 6 _ rfl;have h7:=at' 7 _ rfl;have h8:=at' 8 _ rfl;have h9:=at' 9 _ rfl;have h10:=at' 10 _ rfl;have h11:=at' 11 _ rfl;generalize (knOs w.heap.size).foldl World.alloc w=W at *;intro k x hk
  match k,hk with
  | 0,hk=>cases hk;exact ⟨none,0,by simp[World.cell?,hB],by simp[World.cell?,hB],⟨none,0,rfl,by simp,fun j hj=>absurd hj (by simp)⟩,Nat.le_refl _,by simp[World.cell?,hB]⟩
  | 1,hk=>cases hk;exact ⟨_,1,by simp[World.cell?,hB],by simp[World.cell?,hB],kn_lr h0 (by simp),Nat.le_refl _,by simp[World.cell?,hB]⟩
  | 2,hk=>cases hk;exact ⟨_,2,by simp[World.cell?,hB],by simp[World.cell?,hB],kn_lr h1 (by simp),Nat.le_refl _,by simp[World.cell?,hB]⟩
  | 3,hk=>cases hk;exact ⟨_,2,by simp[World.cell?,hB],by simp[World.cell?,hB],kn_lr h2 (by simp),Nat.le_refl _,by simp[World.cell?,hB]⟩
  | 4,hk=>cases hk;exact ⟨_,1,by simp[World.cell?,hB],by simp[World.cell?,hB],kn_lr h3 (by simp),Nat.le_refl _,by simp[World.cell?,hB]⟩
  | 5,hk=>cases hk;exact ⟨_,1,by simp[World.cell?,hB],by simp[World.cell?,hB],kn_lr h4 (by simp),Nat.le_refl _,by simp[World.cell?,hB]⟩
  | 6,hk=>cases hk;exact ⟨_,1,by simp[World.cell?,hB],by simp[World.cell?,hB],kn_lr h5 (by simp),Nat.le_refl _,by simp[World.cell?,hB]⟩
  | 7,hk=>cases hk;exact ⟨none,0,by simp[World.cell?,hB],by simp[World.cell?,hB],⟨none,0,rfl,by simp,fun j hj=>absurd hj (by simp)⟩,Nat.le_refl _,by simp[World.cell?,hB]⟩
  | 8,hk=>cases hk;exact ⟨_,1,by simp[World.cell?,hB],by simp[World.cell?,hB],kn_lr h6 (by simp),Nat.le_refl _,by simp[World.cell?,hB]⟩
  | 9,hk=>cases hk;exact ⟨_,1,by simp[World.cell?,hB],by simp[World.cell?,hB],kn_lr h7 (by simp),Nat.le_refl _,by simp[World.cell?,hB]⟩
  | 10,hk=>cases hk;exact ⟨_,1,by simp[World.cell?,hB],by simp[World.cell?,hB],kn_lr h8 (by simp),Nat.le_refl _,by simp[World.cell?,hB]⟩
  | 11,hk=>cases hk;exact ⟨_,1,by simp[World.cell?,hB],by simp[World.cell?,hB],kn_lr h9 (by simp),Nat.le_refl _,by simp[World.cell?,hB]⟩
  | 12,hk=>cases hk;exact ⟨_,1,by simp[World.cell?,hB],by simp[World.cell?,hB],kn_lr h10 (by simp),Nat.le_refl _,by simp[World.cell?,hB]⟩
  | 13,hk=>cases hk;exact ⟨none,0,by simp[World.cell?,hB],by simp[World.cell?,hB],⟨none,0,rfl,by simp,fun j hj=>absurd hj (by simp)⟩,Nat.le_refl _,by simp[World.cell?,hB]⟩
  | 14,hk=>cases hk;exact ⟨none,0,by simp[World.cell?,hB],by simp[World.cell?,hB],⟨none,0,rfl,by simp,fun j hj=>absurd hj (by simp)⟩,Nat.le_refl _,by simp[World.cell?,hB]⟩
  | 15,hk=>cases hk;exact ⟨_,1,by simp[World.cell?,hB],by simp[World.cell?,hB],kn_lr h11 (by simp),Nat.le_refl _,by simp[World.cell?,hB]⟩
  | k+16,hk=>simp[knD]at hk
def szL:Nat→List LBL→Nat
 | n,[]=>n
 | n,x::r=>if n≤16384 then szL (n+x.1.length+x.2.length) r else n
theorem szL_le:∀ (L:List LBL) (n:Nat),n≤szL n L
 | [],n=>Nat.le_refl _
 | x::r,n=>by
   unfold szL
   split
   ·have:=szL_le r (n+x.1.length+x.2.length)
    omega
   ·exact Nat.le_refl _
theorem szL_all:∀ (L:List LBL) (n:Nat),szL n L≤16384→∀ x∈L,x.1.length≤16384∧x.2.length≤16384
 | [],n,_=>by simp
 | y::r,n,h=>by
   have hn:=Nat.le_trans (szL_le (y::r) n) h;unfold szL at h;rw[if_pos hn]at h;have h2:=szL_le r (n+y.1.length+y.2.length);intro x hx;rcases List.mem_cons.1 hx with rfl|hx
   ·omega
   ·exact szL_all r _ h x hx
def LQ(w:World)(a:Option Addr)(L:List LBL):Prop :=
 ∀ (j:Nat) (h:j<L.length),∃ g off,a=some ⟨g,off,none⟩∧g<w.heap.size∧w.cell? ⟨g,off+j*2,none⟩=some (.string (bs L[j].1))∧w.cell? ⟨g,off+j*2+1,none⟩=some (.string (bs L[j].2))
theorem LQ.lr{w:World}{a:Option Addr}{L:List LBL}(h:LQ w a L)(cap:Nat)(hl:L.length≤1048576):LR w (.slice a L.length cap) L:=⟨a,cap,rfl,hl,h⟩
theorem LQ.frm{w w':World}{a:Option Addr}{L:List LBL}(h:LQ w a L)(f:Frm [] w w'):LQ w' a L:=by
 intro j hj;obtain ⟨g,off,rfl,h2,h3,h4⟩:=h j hj;exact ⟨g,off,rfl,Nat.lt_of_lt_of_le h2 f.size,(f.cell (p:=⟨g,off+j*2,none⟩) h2 (by simp)).trans h3,(f.cell (p:=⟨g,off+j*2+1,none⟩) h2 (by simp)).trans h4⟩
def pickN(c:Int)(n:Nat):Nat:=((if c<0 then -(c+1) else c) % n).toNat
theorem pickN_lt(c:Int)(n:Nat)(hn:0<n):pickN c n<n:=by
 unfold pickN;have:=Int.emod_lt_of_pos (if c<0 then -(c+1) else c) (show (0:Int)<n by omega);have:=Int.emod_nonneg (if c<0 then -(c+1) else c) (show (n:Int)≠0 by omega);omega
theorem kpick_any(c:Int)(n:Nat)(hn:0<n)(hn2:n≤1048576)(w:World)(h0:-9223372036854775808≤c)(h1:c≤9223372036854775807) :
 Calls Tryz.prog 9 #[.int .i64 c, .int .i64 n] w fun e w'=>e=.returned (.int .i64 (pickN c n:Nat))∧w=w':=by
 have hne:((n:Int)==0)=false:=by rw[beq_eq_false_iff_ne];omega
 have hne1:(n:Int)≠0:=by omega
 by_cases hc:c<0
 ·have hd:decide (c<0)=true:=decide_eq_true hc
  have Hx:Hid ((pickN c n:Int)=Int.tmod (-(c+1)) n):=by
   show _=_;unfold pickN;rw[if_pos hc,Int.tmod_eq_emod_of_nonneg (by omega)];have:=Int.emod_nonneg (-(c+1)) hne1;omega
  have hb1:=Int.tmod_lt_of_pos (-(c+1)) (show (0:Int)<n by omega);have hb2:0≤Int.tmod (-(c+1)) n:=Int.tmod_nonneg _ (by omega);go_enter Tryz.func9,Tryz.ntmps9
  go_wp2;go_ret;refine ⟨ret_int ?_,rfl⟩;rw[Hx.out]
  try rw[Int.neg_tmod]
 ·have hd:decide (c<0)=false:=decide_eq_false hc
  have Hx:Hid ((pickN c n:Int)=Int.tmod c n):=by
   show _=_;unfold pickN;rw[if_neg hc,Int.tmod_eq_emod_of_nonneg (by omega)];have:=Int.emod_nonneg c hne1;omega
  have hb1:=Int.tmod_lt_of_pos c (show (0:Int)<n by omega);have hb2:0≤Int.tmod c n:=Int.tmod_nonneg _ (by omega);go_enter Tryz.func9,Tryz.ntmps9
  go_wp2;go_ret;refine ⟨ret_int ?_,rfl⟩;rw[Hx.out];exact (Int.tmod_eq_emod_of_nonneg (by omega)).symm
theorem kn_all:∀ x∈knD,cRes reC x.1=(0,0):=by
 intro x hx;have:knD.all (fun x=>cRes reC x.1==(0,0))=true:=by decide +kernel
 have:=List.all_eq_true.1 this x hx;simpa using this
theorem kn_len:∀ x∈knD,x.1.length≤1048576:=by
 intro x hx;have:knD.all (fun x=>decide (x.1.length≤1048576))=true:=by decide +kernel
 have:=List.all_eq_true.1 this x hx;simpa using this
theorem stands_any(c:Int)(w:World)(h0:-9223372036854775808≤c)(h1:c≤9223372036854775807) :
 Calls Tryz.prog 5 #[.int .i64 c] w fun e w'=>e=.returned (.bool true)∧Frm [] w w':=by
 have N1:=hide (knowns_any w);have NP:Hid (∀ W,Calls Tryz.prog 9 #[.int .i64 c, .int .i64 16] W fun e w'=>e=.returned (.int .i64 (pickN c 16:Nat))∧W=w'):=fun W=>kpick_any c 16 (by omega) (by omega) W h0 h1
 have hk:=pickN_lt c 16 (by omega);obtain ⟨x,hx⟩:∃ x,knD[pickN c 16]?=some x:=⟨_,List.getElem?_eq_getElem (show pickN c 16<knD.length from hk)⟩;have HXm:=hide (List.mem_of_getElem? hx);have HX:=hide hx;clear hx;go_enter Tryz.func5,Tryz.ntmps5
 go_wp2_with fail
 refine (N1.out).mono ?_;clear N1;rintro e w1 ⟨hF,g,rfl,hg,hKN⟩;have F:=hide hF;obtain ⟨a,cap,c0,_,_,_,_⟩:=hKN _ _ HX.out;have HC:=hide (compile_any x.1 w1 (kn_len x HXm.out));clear hF hKN HX;generalize pickN c 16=k at *;have hd1:decide ((k:Int)<0)=false:=decide_eq_false (by omega);have hd2:decide ((k:Int)<16)=true:=decide_eq_true (by omega);go_wp2_with fail
 refine (NP.out _).mono ?_;clear NP;rintro e w2 ⟨rfl,rfl⟩;go_wp2_with fail
 refine (HC.out).mono ?_;clear HC;rintro e w3 ⟨hF3,⟨h1,rfl⟩|⟨Ln,C,s,V,pb,h1,h2,h3,rfl,h4,h5,h6⟩⟩
 ·rw[kn_all x HXm.out]at h1;exact absurd rfl h1
 ·have F3:=hide (F.out.trans hF3)
  clear hF3 h1 h2 h3 h4 h5;go_wp2;go_ret;exact ⟨rfl,F3.out⟩
structure DK(w0:World)(w:World)(db:Nat)(t:List UInt8)(a:Option Addr)(cap:Nat)(L:List LBL)(Ln:List (List UInt8))(C:List CR)(s:CS)(V:V6)(pb:Nat):Prop where
 row:w.heap[db]?=some (.cells #[.string (bs t), .pointer (some ⟨pb,0,none⟩), .slice a L.length cap] 35 (0,0))
 new:w0.heap.size≤db
 tl:t.length≤16384
 ll:L.length≤16384
 ls:∀ x∈L,x.1.length≤16384∧x.2.length≤16384
 res:cRes reC t=(0,0)
 rd:cRead t=.ok (Ln,C)
 pr:pread reC autC cs0 0 C=.ok s
 pg:PR [] w pb V (compM C s)
 ok:MOK (compM C s)
 lr:LQ w a L
 cap:L.length≤cap
theorem DK.frm{w0 w w':World}{db:Nat}{t:List UInt8}{a:Option Addr}{cap:Nat}{L:List LBL}{Ln:List (List UInt8)}{C:List CR}{s:CS}{V:V6}{pb:Nat}(h:DK w0 w db t a cap L Ln C s V pb)(f:Frm [] w w'):DK w0 w' db t a cap L Ln C s V pb :=
 ⟨(f.block db (Array.getElem?_eq_some_iff.1 h.row).1 (by simp)).trans h.row,h.new,h.tl,h.ll,h.ls,h.res,h.rd,h.pr,h.pg.frm f (by simp),h.ok,h.lr.frm f,h.cap⟩
def ATQ(t:List UInt8)(a:Option Addr)(cap:Nat)(L:List LBL)(w:World)(e:Ending)(w':World):Prop :=
 Frm [] w w'∧(e=.returned (.pointer none)∨∃ db Ln C s V pb,e=.returned (.pointer (some ⟨db,0,none⟩))∧DK w w' db t a cap L Ln C s V pb)
theorem kat_any(w:World)(a:Option Addr)(cap:Nat)(L:List LBL)(h:LQ w a L)(hN:L.length≤4398046511104)(hs:∀ x∈L,x.1.length≤140737488355328∧x.2.length≤140737488355328)(hcap:L.length≤cap)(r:List UInt8)(hr:r.length≤140737488355328) :
 Calls Tryz.prog 4 #[.string (bs r), .slice a L.length cap] w (ATQ r a cap L w):=by
 have H:=hide h;have HS:=hide hs;have hl:=bs_toList;have hz:=bs_size;have HCM:Hid (r.length≤1048576→∀ q,Calls Tryz.prog 7 #[.string (bs r)] (w.drewN q) (CMQ r (w.drewN q))):=fun h q=>compile_any r (w.drewN q) h
 clear h hs;go_enter Tryz.func4,Tryz.ntmps4
 go_wp2_with fail
 go_loopg [5,6] L.length (fun k v3 v4 wr=>∃ j n q:Nat,j+k=L.length∧v4=.int .i64 j∧v3=.int .i64 n∧n≤562949953421312∧wr=w.drewN q∧Hid (szL n (L.drop j)=szL (r.length+L.length) L))
 case atStart=>exact ⟨0,r.length+L.length,0,by omega,rfl,by go_num,by omega,rfl,by show _=_;simp⟩
 case round =>
  obtain ⟨j,n,q,hjk,rfl,rfl,hn,hw,HF⟩:=hrel;subst hw
  by_cases hlt:j<L.length
  ·have hd1:decide ((j:Int)<(L.length:Int))=true:=decide_eq_true (by omega)
   by_cases hn2:n≤16384
   ·have hd2:decide ((n:Int)≤16384)=true:=decide_eq_true (by omega)
    have hd2':decide (n≤16384)=true:=decide_eq_true hn2;obtain ⟨g,off,rfl,hg,hc1,hc2⟩:=H.out j hlt;have hx:=HS.out L[j] (List.getElem_mem hlt);have HF2:Hid (szL (n+L[j].1.length+L[j].2.length) (L.drop (j+1))=szL (r.length+L.length) L):=by
     show _=_;rw[← HF.out,List.drop_eq_getElem_cons hlt,szL,if_pos hn2]
    clear HF;generalize L[j]=x at *;obtain ⟨nm,vl⟩:=x;simp only at hc1 hc2 hx HF2;have hz1:=bs_size nm;have hz2:=bs_size vl;go_wp2_with fail
    go_quiet (fail)
    go_wp2;go_roundg (gk-1)
    case measure=>omega
    case rel=>exact ⟨j+1,n+nm.length+vl.length,_,by omega,by go_num,by go_num,by omega,rfl,HF2⟩
   ·have hd2:decide ((n:Int)≤16384)=false:=decide_eq_false (by omega)
    have hd2':decide (n≤16384)=false:=decide_eq_false hn2;have hd3:decide ((16384:Int)<(n:Int))=true:=decide_eq_true (by omega);have hd3':decide (16384<n)=true:=decide_eq_true (by omega);clear HF HCM;go_wp2;go_ret;exact ⟨(Frm.refl [] w).drewN q, .inl rfl⟩
  ·have hd1:decide ((j:Int)<(L.length:Int))=false:=decide_eq_false (by omega)
   have HV:Hid (szL (r.length+L.length) L=n):=by
    show _=_;rw[← HF.out,List.drop_eq_nil_of_le (by omega)];rfl
   clear HF
   by_cases hn2:n≤16384
   ·have hd3:decide ((16384:Int)<(n:Int))=false:=decide_eq_false (by omega)
    have hd3':decide (16384<n)=false:=decide_eq_false (by omega);have h1:=szL_le L (r.length+L.length);rw[HV.out]at h1;have HLS:=hide (szL_all L (r.length+L.length) (by rw[HV.out];exact hn2));have N1:=hide (HCM.out (by omega) q);clear HCM HV;go_wp2_with fail
    refine (N1.out).mono ?_;clear N1;rintro e w' ⟨hF,⟨h1,rfl⟩|⟨Ln,C,s,V,pb,q1,q2,q3,rfl,q4,q5,q6⟩⟩
    ·have F:=hide (((Frm.refl [] w).drewN q).trans hF)
     have hne:(((cRes reC r).1:Int) != 0)=true:=by rw[bne_iff_ne];omega
     generalize (cRes reC r).1=n1 at *;generalize (cRes reC r).2=n2 at *;clear hF h1;go_wp2;go_ret;exact ⟨F.out, .inl rfl⟩
    ·have F:=hide (((Frm.refl [] w).drewN q).trans hF)
     have Q1:=hide q1;have Q2:=hide q2;have Q3:=hide q3;have Q4:=hide q4;have Q5:=hide q5;clear hF q1 q2 q3 q4 q5;go_wp2;go_ret;have FA:Frm [] w' (w'.alloc (Obj.cells #[.string (bs r), .pointer (some ⟨pb,0,none⟩), .slice a L.length cap] 35)):=(Frm.refl [] w').alloc _;exact ⟨F.out.trans FA, .inr ⟨w'.heap.size,Ln,C,s,V,pb,rfl,heap1 _ _,F.out.size,by omega,by omega,HLS.out,Q1.out,Q2.out,Q3.out,Q4.out.frm FA (by simp),Q5.out,H.out.frm (F.out.trans FA),hcap⟩⟩
   ·have hd3:decide ((16384:Int)<(n:Int))=true:=decide_eq_true (by omega)
    have hd3':decide (16384<n)=true:=decide_eq_true (by omega);clear HCM;go_wp2;go_ret;exact ⟨(Frm.refl [] w).drewN q, .inl rfl⟩
theorem lns_one:∀ (x cur r:List UInt8),(10:UInt8)∉x→lnsGo (x++10::r) cur=(cur++x++[10])::lnsGo r []
 | [],cur,r,_=>by simp[lnsGo]
 | c::x,cur,r,h=>by
   have hc:(c==10)=false:=by
    rw[beq_eq_false_iff_ne];rintro rfl;exact h (by simp)
   rw[List.cons_append,lnsGo,hc];simp only[Bool.false_eq_true,if_false];rw[lns_one x (cur++[c]) r (fun hm=>h (by simp[hm]))];simp
theorem lns_flat:∀ (ls:List (List UInt8)),(∀ l∈ls,∃ x,l=x++[10]∧(10:UInt8)∉x)→lnsK ls.flatten=ls
 | [],_=>rfl
 | l::ls,h=>by
   obtain ⟨x,rfl,hx⟩:=h l (by simp);have ih:=lns_flat ls (fun y hy=>h y (by simp[hy]));unfold lnsK at ih ⊢;rw[List.flatten_cons,List.append_assoc];show lnsGo (x++10::ls.flatten) []=_;rw[lns_one x [] _ hx,ih];rfl
theorem cRes_some{t:List UInt8}{L:List (List UInt8)}{C:List CR}(h:cRead t=.ok (L,C))(re:List UInt8→Nat):cRes re t=xF re C 0:=by
 unfold cRes;rw[h]
theorem tw_app{p:UInt8→Bool}:∀ (a b:List UInt8),a.all p=true→(∀ c r,b=c::r→p c=false)→(a++b).takeWhile p=a∧(a++b).dropWhile p=b
 | [],b,_,hb=>by
   cases b with
   | nil=>simp
   | cons c r=>simp[hb c r rfl]
 | x::a,b,ha,hb=>by
   rw[List.all_cons,Bool.and_eq_true]at ha;obtain ⟨h1,h2⟩:=tw_app a b ha.2 hb;simp[ha.1,h1,h2]
theorem name_all{n:List UInt8}(h:isNameL n=true):n.all nmB=true:=by
 unfold isNameL at h;rw[Bool.and_eq_true]at h;exact h.2
theorem sRecv_name{n r:List UInt8}(h:isNameL n=true)(hr:∀ c q,r=c::q→nmB c=false):sRecv (n++r)=(n,true,r):=by
 obtain ⟨h1,h2⟩:=tw_app n r (name_all h) hr;have h45:sTake [45] (n++r)=false:=by
  cases n with
  | nil=>simp[isNameL]at h
  | cons c q =>
    have:=name_all h;rw[List.all_cons,Bool.and_eq_true]at this;unfold sTake;simp only[List.cons_append,List.isPrefixOf];have hc:(45==c)=false:=by
     rw[beq_eq_false_iff_ne];rintro rfl;have:=this.1
     revert this
     decide
    rw[hc];rfl
 unfold sRecv;rw[h45];simp[h1,h2,h]
def hexD(n:Nat):UInt8:=if n<10 then UInt8.ofNat (48+n) else UInt8.ofNat (97+n-10)
def kindT(k:Nat):List UInt8:=if k=1 then [33,61] else if k=2 then [61,126] else if k=3 then [33,126] else [61]
def quoteB(c:UInt8):List UInt8 :=
 if !(plainB c.toNat) then [92,120,hexD (c.toNat / 16),hexD (c.toNat % 16)]
 else if c==34||c==92 then [92,c] else [c]
def quoteV(v:List UInt8):List UInt8:=[34]++v.flatMap quoteB++[34]
theorem quoteB_len(c:UInt8):(quoteB c).length≤4:=by
 unfold quoteB
 split
 ·simp
 ·split<;>simp
theorem quoteL_len:∀ (v:List UInt8),(v.flatMap quoteB).length≤4*v.length
 | []=>by simp
 | c::r=>by
   have:=quoteL_len r;have:=quoteB_len c;simp only[List.flatMap_cons,List.length_append,List.length_cons];omega
/-! A value in quotes,read. -/
theorem hexD_read:∀ n,n<16→∀ r,sHexD (hexD n::r)=(UInt8.ofNat n,true,r):=by
 intro n hn r;have h:∀ n,n<16→(if dgB (hexD n) then ((hexD n-48:UInt8),true) else if 97≤hexD n∧hexD n≤102 then (hexD n-97+10,true) else (0,false))=(UInt8.ofNat n,true):=by decide +kernel
 have h1:=h n hn;unfold sHexD;simp only
 split at h1
 ·rename_i h2
  rw[if_pos h2];simp only[Prod.mk.injEq]at h1 ⊢;exact ⟨h1.1,trivial⟩
 ·rename_i h2
  rw[if_neg h2]
  split at h1
  ·rename_i h3
   rw[if_pos h3];simp only[Prod.mk.injEq]at h1 ⊢;exact ⟨h1.1,trivial⟩
  ·simp at h1
theorem hex_back(c:UInt8):UInt8.ofNat (c.toNat / 16)*16+UInt8.ofNat (c.toNat % 16)=c:=by
 have h:∀ n,n<256→UInt8.ofNat (n / 16)*16+UInt8.ofNat (n % 16)=UInt8.ofNat n:=by decide +kernel
 rw[h c.toNat c.toNat_lt,UInt8.ofNat_toNat]
theorem sVB_quote(c:UInt8)(r:List UInt8):sVB (quoteB c++r)=(c,true,r)∧sTake [34] (quoteB c++r)=false:=by
 unfold quoteB;cases hp:plainB c.toNat
 ·simp only[Bool.not_false,if_true]
  refine ⟨?_,rfl⟩;have e:sVB ([92,120,hexD (c.toNat / 16),hexD (c.toNat % 16)]++r)=sHexB (hexD (c.toNat / 16)::hexD (c.toNat % 16)::r):=rfl;have hc:=c.toNat_lt;rw[e];unfold sHexB;simp only;rw[hexD_read (c.toNat / 16) (by omega),hexD_read (c.toNat % 16) (by omega)];simp only[Bool.and_self,hex_back]
 ·simp only[Bool.not_true,Bool.false_eq_true,if_false]
  by_cases h34:c=34
  ·subst h34;exact ⟨rfl,rfl⟩
  ·by_cases h92:c=92
   ·subst h92;exact ⟨rfl,rfl⟩
   ·have h1:(c==34)=false:=by simpa using h34
    have h2:(c==92)=false:=by simpa using h92
    rw[h1,h2];simp only[Bool.or_self,Bool.false_eq_true,if_false];have n34:(34==c)=false:=by rw[beq_eq_false_iff_ne];exact fun h=>h34 h.symm
    have n92:(92==c)=false:=by rw[beq_eq_false_iff_ne];exact fun h=>h92 h.symm
    refine ⟨?_,by simp[sTake,List.isPrefixOf,n34]⟩;unfold sVB sTake;simp only[List.singleton_append,List.isPrefixOf,n92,Bool.false_and,Bool.false_eq_true,if_false,hp,h2,Bool.not_true,Bool.or_self]
theorem valL_quote:∀ (v acc rest:List UInt8) (n:Nat),v.length<n→acc.length+v.length≤40→valL n acc (v.flatMap quoteB++34::rest)=(acc++v,true,rest)
 | [],acc,rest,n,hn,_=>by
   obtain ⟨m,rfl⟩:∃ m,n=m+1:=⟨n-1,by simp at hn;omega⟩;rw[valL];have:sTake [34] ([].flatMap quoteB++34::rest)=true:=by simp[sTake,List.isPrefixOf]
   rw[this];simp[sRest,List.isPrefixOf]
 | c::v,acc,rest,n,hn,hl=>by
   rw[List.length_cons]at hn hl;obtain ⟨m,rfl⟩:∃ m,n=m+1:=⟨n-1,by omega⟩;obtain ⟨h1,h2⟩:=sVB_quote c (v.flatMap quoteB++34::rest);rw[valL,List.flatMap_cons,List.append_assoc,h2,h1];simp only[Bool.false_eq_true,if_false,Bool.not_true,Bool.false_or];rw[if_neg (by simp;omega),valL_quote v (acc++[c]) rest m (by omega) (by simp;omega)];simp
theorem sVal_quote(v rest:List UInt8)(h:v.length≤40):sVal (quoteV v++rest)=(v,true,rest):=by
 have e:quoteV v++rest=34::(v.flatMap quoteB++34::rest):=by unfold quoteV;simp
 have h1:sTake [34] (quoteV v++rest)=true:=by rw[e];simp[sTake,List.isPrefixOf]
 have h2:sRest [34] (quoteV v++rest)=v.flatMap quoteB++34::rest:=by rw[e];simp[sRest,List.isPrefixOf]
 unfold sVal;rw[h1,h2,if_pos rfl];have hq:∀ v:List UInt8,v.length≤(v.flatMap quoteB).length:=by
  intro v
  induction v with
  | nil=>simp
  | cons c r ih =>
    rw[List.flatMap_cons,List.length_append,List.length_cons];have:1≤(quoteB c).length:=by unfold quoteB;split;simp;split<;>simp
    omega
 have:=hq v;rw[valL_quote v [] rest _ (by rw[e];simp only[List.length_cons,List.length_append];omega) (by simpa using h)]
 rfl
def opK(k:Nat):List UInt8:=if k=0 then [61] else if k=1 then [33,61] else if k=2 then [61,126] else [33,126]
theorem sKind_op{k:Nat}(hk:k≤3)(v rest:List UInt8):sKind (opK k++(quoteV v++rest))=(k,true,quoteV v++rest):=by
 have e:quoteV v++rest=34::(v.flatMap quoteB++34::rest):=by unfold quoteV;simp
 rw[e];rcases (show k=0∨k=1∨k=2∨k=3 by omega) with rfl|rfl|rfl|rfl<;>simp[sKind,opK,sTake,sRest,List.isPrefixOf]
theorem quoteB_no(c:UInt8):(10:UInt8)∉quoteB c:=by
 have h:∀ n,n<256→(10:UInt8)∉quoteB (UInt8.ofNat n):=by decide +kernel
 have:=h c.toNat c.toNat_lt
 rwa [UInt8.ofNat_toNat]at this
theorem quoteV_no(v:List UInt8):(10:UInt8)∉quoteV v:=by
 unfold quoteV;simp only[List.mem_append,List.mem_singleton,List.mem_flatMap,not_or,not_exists,not_and];exact ⟨⟨by decide,fun c _=>quoteB_no c⟩,by decide⟩
/-! Printed parts of a route,read again. -/
theorem op_kind{k:Nat}(hk:k≤3):opK k=kindT k:=by
 rcases (show k=0∨k=1∨k=2∨k=3 by omega) with rfl|rfl|rfl|rfl<;>rfl
theorem sMat_print{m:CM}(hn:isNameL m.1=true)(hk:m.2.1≤3)(hv:m.2.2.length≤40)(rest:List UInt8):sMat (m.1++(kindT m.2.1++(quoteV m.2.2++rest)))=(m,true,rest):=by
 obtain ⟨n,k,v⟩:=m;simp only at hn hk hv ⊢;rw[← op_kind hk];have hop:∃ c r,opK k++(quoteV v++rest)=c::r∧nmB c=false:=by
  rcases (show k=0∨k=1∨k=2∨k=3 by omega) with rfl|rfl|rfl|rfl<;>exact ⟨_,_,rfl,by decide⟩
 obtain ⟨c,r,e,hc⟩:=hop;have h1:=tw_app (p:=nmB) n (opK k++(quoteV v++rest)) (name_all hn) (fun c' r' h=>by rw[e]at h;cases h;exact hc);unfold sMat;rw[h1.1,h1.2];dsimp only;rw[sKind_op hk v rest];dsimp only;rw[sVal_quote v rest hv,hn]
 rfl
theorem mats_print:∀ (M acc:List CM) (k:Nat) (rest:List UInt8),(∀ m∈M,isNameL m.1=true∧m.2.1≤3∧m.2.2.length≤40)→acc.length+M.length≤4→M.length<k→sTake kIf rest=false→matL k acc ((M.flatMap fun m=>kIf++(m.1++(kindT m.2.1++quoteV m.2.2)))++rest)=(acc++M,true,rest)
 | [],acc,k,rest,_,_,hk,hr=>by
   obtain ⟨j,rfl⟩:∃ j,k=j+1:=⟨k-1,by simp at hk;omega⟩;simp[matL,hr]
 | m::M,acc,k,rest,hM,hl,hk,hr=>by
   rw[List.length_cons]at hl hk;obtain ⟨j,rfl⟩:∃ j,k=j+1:=⟨k-1,by omega⟩;obtain ⟨a,b,c⟩:=hM m (by simp);have e:((m::M).flatMap fun m=>kIf++(m.1++(kindT m.2.1++quoteV m.2.2)))++rest=kIf++(m.1++(kindT m.2.1++(quoteV m.2.2++((M.flatMap fun m=>kIf++(m.1++(kindT m.2.1++quoteV m.2.2)))++rest)))):=by simp
   have h1:sTake kIf (kIf++(m.1++(kindT m.2.1++(quoteV m.2.2++((M.flatMap fun m=>kIf++(m.1++(kindT m.2.1++quoteV m.2.2)))++rest)))))=true:=rfl;have h2:sRest kIf (kIf++(m.1++(kindT m.2.1++(quoteV m.2.2++((M.flatMap fun m=>kIf++(m.1++(kindT m.2.1++quoteV m.2.2)))++rest)))))=m.1++(kindT m.2.1++(quoteV m.2.2++((M.flatMap fun m=>kIf++(m.1++(kindT m.2.1++quoteV m.2.2)))++rest))):=rfl;rw[e,matL,h1,h2,sMat_print a b c];simp only[if_true,Bool.not_true,Bool.false_or];rw[if_neg (by simp;omega),mats_print M (acc++[m]) j rest (fun x hx=>hM x (by simp[hx])) (by simp;omega) (by omega) hr];simp
theorem labs_more:∀ (B acc:List (List UInt8)) (k:Nat) (rest:List UInt8),(∀ n∈B,isNameL n=true)→acc≠[]→acc.length+B.length≤4→B.length<k→(∀ c r,rest=c::r→nmB c=false∧c≠44)→labL k acc ((B.flatMap fun n=>44::n)++rest)=(acc++B,true,rest)
 | [],acc,k,rest,_,ha,_,hk,hr=>by
   obtain ⟨j,rfl⟩:∃ j,k=j+1:=⟨k-1,by simp at hk;omega⟩;have h1:acc.isEmpty=false:=by cases acc with | nil=>exact absurd rfl ha|cons=>rfl
   have h2:sTake [44] rest=false:=by
    cases rest with
    | nil=>rfl
    | cons c r =>
      have:=(hr c r rfl).2;simp[sTake,List.isPrefixOf];exact fun h=>this h.symm
   simp[labL,h1,h2]
 | n::B,acc,k,rest,hB,ha,hl,hk,hr=>by
   rw[List.length_cons]at hl hk;obtain ⟨j,rfl⟩:∃ j,k=j+1:=⟨k-1,by omega⟩;have h1:acc.isEmpty=false:=by cases acc with | nil=>exact absurd rfl ha|cons=>rfl
   have hn:=hB n (by simp);have e:((n::B).flatMap fun n=>44::n)++rest=44::(n++((B.flatMap fun n=>44::n)++rest)):=by simp
   have h2:sTake [44] (44::(n++((B.flatMap fun n=>44::n)++rest)))=true:=rfl;have h3:sRest [44] (44::(n++((B.flatMap fun n=>44::n)++rest)))=n++((B.flatMap fun n=>44::n)++rest):=rfl;have h4:=tw_app (p:=nmB) n ((B.flatMap fun n=>44::n)++rest) (name_all hn) (fun c r h=>by
    cases B with
    | nil=>exact (hr c r (by simpa using h)).1
    | cons b B=>simp at h;rw[← h.1];decide)
   rw[e,labL,h1,h2];simp only[Bool.not_false,Bool.not_true,Bool.and_false,Bool.false_eq_true,if_false];rw[h3,h4.1,h4.2,hn];simp only[Bool.not_true,Bool.false_or];rw[if_neg (by simp;omega),labs_more B (acc++[n]) j rest (fun x hx=>hB x (by simp[hx])) (by simp) (by simp;omega) (by omega) hr];simp
theorem labs_print{b:List UInt8}{B:List (List UInt8)}{rest:List UInt8}(hB:∀ n∈b::B,isNameL n=true)(hl:B.length≤3)(hr:∀ c r,rest=c::r→nmB c=false∧c≠44):sLabs (b++((B.flatMap fun n=>44::n)++rest))=(b::B,true,rest):=by
 have hn:=hB b (by simp);have h4:=tw_app (p:=nmB) b ((B.flatMap fun n=>44::n)++rest) (name_all hn) (fun c r h=>by
  cases B with
  | nil=>exact (hr c r (by simpa using h)).1
  | cons b B=>simp at h;rw[← h.1];decide)
 unfold sLabs;rw[labL];simp only[List.isEmpty_nil,Bool.not_true,Bool.false_and,Bool.false_eq_true,if_false,if_true,List.length_nil];rw[h4.1,h4.2,hn];simp only[Bool.not_true,Bool.false_or,show decide (4≤0)=false from rfl,Bool.false_eq_true,if_false,List.nil_append];rw[labs_more B [b] 5 rest (fun x hx=>hB x (by simp[hx])) (by simp) (by simp;omega) (by omega) hr]
 rfl
end Go.Proofs.YtpcbbbilmpobaaaGreatDoor
