/- Texts put together: NameParts, Rb, Opg. -/
import Derived.Test.YticokpbelgpfmaaGreatRows
import Derived.WalkKit
import Derived.ProofKit
import Derived.Laws.RangeString
import Derived.WalkSpells
import Derived.OpenShut
import Derived.Deep.Fields
namespace Go.Proofs.YticokpbelgpfmaaGreat.Nm
open Go.RowKit
def letB (n:Int):Bool:=decide (97≤n∧n≤122 ∨ 65≤n∧n≤90 ∨ n=95)
def digB (n:Int):Bool:=decide (48≤n∧n≤57)
theorem zAH {a b:Bool} (h:a=b):Ending.returned (.bool a)=.returned (.bool b):=by rw [h]
theorem regions (n:Int):n≤64 ∨ (65≤n∧n≤90) ∨ (91≤n∧n≤94) ∨ n=95 ∨ n=96 ∨ (97≤n∧n≤122) ∨ 123≤n:=by omega
theorem digions (n:Int):n≤47 ∨ (48≤n∧n≤57) ∨ 58≤n:=by omega
theorem zAn (n:Int) (w:World) :
 Calls Tryz.prog 157 #[.int .i32 n] w fun e w'=>e=.returned (.bool (letB n))∧w'=w:=by
 rcases regions n with h | ⟨h,h'⟩ | ⟨h,h'⟩ | rfl | rfl | ⟨h,h'⟩ | h
 all_goals
  go_enter Tryz.func157,Tryz.ntmps157
  go_wp2
  go_ret
  exact ⟨zAH (by unfold letB;rw [Bool.eq_iff_iff];simp;try omega),rfl⟩
theorem zAs (n:Int) (w:World) :
 Calls Tryz.prog 158 #[.int .i32 n] w fun e w'=>e=.returned (.bool (digB n))∧w'=w:=by
 rcases digions n with h | ⟨h,h'⟩ | h
 all_goals
  go_enter Tryz.func158,Tryz.ntmps158
  go_wp2
  go_ret
  exact ⟨zAH (by unfold digB;rw [Bool.eq_iff_iff];simp;try omega),rfl⟩
theorem zAq (n:Int) (w:World) :
 Calls Tryz.prog 177 #[.int .u8 n] w fun e w'=>e=.returned (.bool (letB n))∧w'=w:=by
 rcases regions n with h | ⟨h,h'⟩ | ⟨h,h'⟩ | rfl | rfl | ⟨h,h'⟩ | h
 all_goals
  go_enter Tryz.func177,Tryz.ntmps177
  go_wp2
  go_ret
  exact ⟨zAH (by unfold letB;rw [Bool.eq_iff_iff];simp;try omega),rfl⟩
theorem l00Digit_any (n:Int) (w:World) :
 Calls Tryz.prog 178 #[.int .u8 n] w fun e w'=>e=.returned (.bool (digB n))∧w'=w:=by
 rcases digions n with h | ⟨h,h'⟩ | h
 all_goals
  go_enter Tryz.func178,Tryz.ntmps178
  go_wp2
  go_ret
  exact ⟨zAH (by unfold digB;rw [Bool.eq_iff_iff];simp;try omega),rfl⟩
def okAt (s:ByteArray) (i:Nat):Bool:=letB ((s.data.toList.getD i 0).toNat:Int) || (decide (i ≠ 0) && digB ((s.data.toList.getD i 0).toNat:Int))
def zBH (s:ByteArray):Bool:=decide (1≤s.size∧s.size≤40∧∀ i,i<s.size→okAt s i=true)
theorem getD_at (s:ByteArray) (i:Nat) (h:i<s.size):s.data.toList.getD i 0=s[i]:=by
 have:i<s.data.toList.length:=by simpa using h
 simp [List.getD_eq_getElem?_getD,List.getElem?_eq_getElem this];rfl
theorem zBM (s:ByteArray) (i:Nat) (h:i<s.size):okAt s i=(letB (s[i].toNat:Int) || (decide (i ≠ 0) && digB (s[i].toNat:Int))):=by
 unfold okAt;rw [getD_at s i h]
theorem name_no (s:ByteArray) (i:Nat) (h:i<s.size) (hn:okAt s i=false):zBH s=false:=by
 unfold zBH;simp only [decide_eq_false_iff_not];rintro ⟨_,_,h'⟩;rw [h' i h] at hn;cases hn
theorem name_yes (s:ByteArray) (h1:1≤s.size) (h2:s.size≤40) (h:∀ i,i<s.size→okAt s i=true):zBH s=true:=by
 unfold zBH;simp only [decide_eq_true_eq];exact ⟨h1,h2,h⟩
theorem name_small (s:ByteArray) (h:s.size=0 ∨ 40<s.size):zBH s=false:=by
 unfold zBH;simp only [decide_eq_false_iff_not];omega
set_option maxHeartbeats 400000 in
theorem l00Word_any (s:ByteArray) (w:World) (hs:s.size≤maxLen) :
 Calls Tryz.prog 155 #[.string s] w fun e w'=>e=.returned (.bool (zBH s))∧w'=w:=by
 unfold maxLen at hs
 by_cases h0:s.size=0
 ·have hn:=name_small s (.inl h0)
  have h1:(s.size:Int)<1:=by omega
  go_enter Tryz.func155,Tryz.ntmps155
  go_wp2
  go_ret
  exact ⟨zAH hn.symm,rfl⟩
 by_cases h4:40<s.size
 ·have hn:=name_small s (.inr h4)
  have h1:(1:Int)≤(s.size:Int):=by omega
  have h2:(40:Int)<(s.size:Int):=by omega
  go_enter Tryz.func155,Tryz.ntmps155
  go_wp2
  go_ret
  exact ⟨zAH hn.symm,rfl⟩
 have hp:0<s.size:=by omega
 have h1:(1:Int)≤(s.size:Int):=by omega
 have h2:(s.size:Int)≤40:=by omega
 cases hl:letB ((s[0]'hp).toNat:Int)
 ·have hn:=name_no s 0 hp (by rw [zBM s 0 hp,hl];rfl)
  go_enter Tryz.func155,Tryz.ntmps155
  go_wp2_with (go_at_call 177;refine (zAq _ _).mono ?_;rintro e w' ⟨rfl,rfl⟩)
  go_ret
  exact ⟨zAH hn.symm,rfl⟩
 have hok0:okAt s 0=true:=by rw [zBM s 0 hp,hl];rfl
 go_enter Tryz.func155,Tryz.ntmps155
 go_wp2_with (go_at_call 177;refine (zAq _ _).mono ?_;rintro e w' ⟨rfl,rfl⟩)
 have H0:Hid (okAt s 0=true):=hok0
 clear hok0 hl
 go_loop [3] (fun i=>∃ k:Nat,1≤k∧k≤s.size∧i=.int .i64 k∧Hid (∀ j,j<k→okAt s j=true)) (fun i=>s.size - (intOf i).toNat)
 case atStart=>exact ⟨1,Nat.le_refl _,by omega,rfl,fun j hj=>(show j=0 by omega) ▸ H0.out⟩
 case round =>
  obtain ⟨k,hk1,hk2,rfl,hall⟩:=hrel
  by_cases hlt:k<s.size
  ·cases hl:letB ((s[k]'hlt).toNat:Int)
   ·cases hd:digB ((s[k]'hlt).toNat:Int)
    ·have hn:Hid (zBH s=false):=name_no s k hlt (by rw [zBM s k hlt,hl,hd];simp)
     go_wp2_with (first | (go_at_call 177;refine (zAq _ _).mono ?_;rintro e w' ⟨rfl,rfl⟩) | (go_at_call 178;refine (l00Digit_any _ _).mono ?_;rintro e w' ⟨rfl,rfl⟩))
     go_ret
     exact ⟨zAH hn.out.symm,rfl⟩
    ·have hk:Hid (okAt s k=true):=by show okAt s k=true;rw [zBM s k hlt,hl,hd];simp;omega
     go_wp2_with (first | (go_at_call 177;refine (zAq _ _).mono ?_;rintro e w' ⟨rfl,rfl⟩) | (go_at_call 178;refine (l00Digit_any _ _).mono ?_;rintro e w' ⟨rfl,rfl⟩))
     go_round
     case rel=>exact ⟨k+1,by omega,by omega,by go_num,fun j hj=>by by_cases e:j=k;(subst e;exact hk.out);exact hall.out j (by omega)⟩
     case measure=>simp [intOf];omega
   ·have hk:Hid (okAt s k=true):=by show okAt s k=true;rw [zBM s k hlt,hl];rfl
    go_wp2_with (first | (go_at_call 177;refine (zAq _ _).mono ?_;rintro e w' ⟨rfl,rfl⟩) | (go_at_call 178;refine (l00Digit_any _ _).mono ?_;rintro e w' ⟨rfl,rfl⟩))
    go_round
    case rel=>exact ⟨k+1,by omega,by omega,by go_num,fun j hj=>by by_cases e:j=k;(subst e;exact hk.out);exact hall.out j (by omega)⟩
    case measure=>simp [intOf];omega
  ·have hn:Hid (zBH s=true):=name_yes s (by omega) (by omega) (fun j hj=>hall.out j (by omega))
   go_wp2
   go_ret
   exact ⟨zAH hn.out.symm,rfl⟩
theorem specNameOK_any (s:ByteArray) (w:World) (hs:s.size≤maxLen) :
 Calls Tryz.prog 128 #[.string s] w fun e w'=>e=.returned (.bool (zBH s))∧w'=w:=by
 go_enter Tryz.func128,Tryz.ntmps128
 go_wp2_with (go_at_call 155;refine (l00Word_any _ _ hs).mono ?_;rintro e w' ⟨rfl,rfl⟩)
 go_ret
 exact ⟨rfl,rfl⟩
theorem runes (s:ByteArray) (k:Nat) (h:k<s.size) :
 (Utf8.decode s k=((s[k]'h).toNat,1)∧((s[k]'h).toNat:Int)<128) ∨ (128≤((Utf8.decode s k).1:Int)∧128≤((s[k]'h).toNat:Int)):=by
 by_cases ha:(s[k]'h).toNat<128
 ·exact .inl ⟨decode_ascii s k h ha,by omega⟩
 ·exact .inr ⟨by have:=(decode_high s k h (by omega)).1;omega,by omega⟩
theorem let_high (n:Int) (h:128≤n):letB n=false:=by unfold letB;simp;omega
theorem dig_high (n:Int) (h:128≤n):digB n=false:=by unfold digB;simp;omega
set_option maxHeartbeats 400000 in
theorem implNameOK_any (s:ByteArray) (w:World) (hs:s.size≤maxLen) :
 Calls Tryz.prog 136 #[.string s] w fun e w'=>e=.returned (.bool (zBH s))∧Below w.heap.size w w':=by
 unfold maxLen at hs
 by_cases h0:s.size=0
 ·have hn:=name_small s (.inl h0)
  have h1:((s.size:Int) == 0)=true:=beq_iff_eq.2 (by omega)
  go_enter Tryz.func136,Tryz.ntmps136
  go_wp2
  go_ret
  exact ⟨zAH hn.symm,Below.refl _ _⟩
 have h1:((s.size:Int) == 0)=false:=beq_eq_false_iff_ne.2 (by omega)
 by_cases h4:40<s.size
 ·have hn:=name_small s (.inr h4)
  have h2:(40:Int)<(s.size:Int):=by omega
  go_enter Tryz.func136,Tryz.ntmps136
  go_wp2
  go_ret
  exact ⟨zAH hn.symm,Below.refl _ _⟩
 have hp:0<s.size:=by omega
 have h2:(s.size:Int)≤40:=by omega
 go_enter Tryz.func136,Tryz.ntmps136
 go_wp2
 go_loopw [] (fun w'=>∃ k:Nat,k≤s.size∧w'=w.iter s k∧Hid (∀ j,j<k→okAt s j=true)) (fun w'=>s.size - w'.iterPos w.heap.size)
 case atStart=>exact ⟨0,Nat.zero_le _,rfl,fun j hj=>absurd hj (by omega)⟩
 case round =>
  obtain ⟨k,hk2,rfl,hall⟩:=hrel
  by_cases hlt:k<s.size
  ·rcases runes s k hlt with ⟨hdec,hlow⟩ | ⟨hdec,hhigh⟩
   ·have hnx:∀ ty,(Instr.next (.pointer (some ⟨w.heap.size,0,none⟩)) true ty).run Tryz.prog (w.iter s k)=_:=fun ty=>run_next_ascii w s k ty hlt (by omega)
    clear hdec
    cases hl:letB ((s[k]'hlt).toNat:Int)
    ·by_cases hz:k=0
     ·subst hz
      have hn:Hid (zBH s=false):=name_no s 0 hlt (by rw [zBM s 0 hlt,hl];rfl)
      go_wp2_with (first | (go_at_call 157;refine (zAn _ _).mono ?_;rintro e w' ⟨rfl,rfl⟩) | (go_at_call 158;refine (zAs _ _).mono ?_;rintro e w' ⟨rfl,rfl⟩))
      go_ret
      exact ⟨zAH hn.out.symm,(Below.refl _ _).alloc (Nat.le_refl _) _⟩
     have hz':((k:Int) == 0)=false:=beq_eq_false_iff_ne.2 (by omega)
     cases hd:digB ((s[k]'hlt).toNat:Int)
     ·have hn:Hid (zBH s=false):=name_no s k hlt (by rw [zBM s k hlt,hl,hd];simp)
      go_wp2_with (first | (go_at_call 157;refine (zAn _ _).mono ?_;rintro e w' ⟨rfl,rfl⟩) | (go_at_call 158;refine (zAs _ _).mono ?_;rintro e w' ⟨rfl,rfl⟩))
      go_ret
      exact ⟨zAH hn.out.symm,(Below.refl _ _).alloc (Nat.le_refl _) _⟩
     ·have hk:Hid (okAt s k=true):=by show okAt s k=true;rw [zBM s k hlt,hl,hd];simp;omega
      go_wp2_with (first | (go_at_call 157;refine (zAn _ _).mono ?_;rintro e w' ⟨rfl,rfl⟩) | (go_at_call 158;refine (zAs _ _).mono ?_;rintro e w' ⟨rfl,rfl⟩))
      go_roundw
      case rel=>exact ⟨k+1,by omega,rfl,fun j hj=>by by_cases e:j=k;(subst e;exact hk.out);exact hall.out j (by omega)⟩
      case measure=>simp;omega
    ·have hk:Hid (okAt s k=true):=by show okAt s k=true;rw [zBM s k hlt,hl];rfl
     go_wp2_with (first | (go_at_call 157;refine (zAn _ _).mono ?_;rintro e w' ⟨rfl,rfl⟩) | (go_at_call 158;refine (zAs _ _).mono ?_;rintro e w' ⟨rfl,rfl⟩))
     go_roundw
     case rel=>exact ⟨k+1,by omega,rfl,fun j hj=>by by_cases e:j=k;(subst e;exact hk.out);exact hall.out j (by omega)⟩
     case measure=>simp;omega
   ·have hnx:∀ ty,(Instr.next (.pointer (some ⟨w.heap.size,0,none⟩)) true ty).run Tryz.prog (w.iter s k)=_:=fun ty=>run_next_any w s k ty hlt
    have hn:Hid (zBH s=false):=name_no s k hlt (by rw [zBM s k hlt,let_high _ hhigh,dig_high _ hhigh];simp)
    have hl:=let_high _ hdec
    have hd:=dig_high _ hdec
    by_cases hz:k=0
    ·subst hz
     go_wp2_with (first | (go_at_call 157;refine (zAn _ _).mono ?_;rintro e w' ⟨rfl,rfl⟩) | (go_at_call 158;refine (zAs _ _).mono ?_;rintro e w' ⟨rfl,rfl⟩))
     go_ret
     exact ⟨zAH hn.out.symm,(Below.refl _ _).alloc (Nat.le_refl _) _⟩
    have hz':((k:Int) == 0)=false:=beq_eq_false_iff_ne.2 (by omega)
    go_wp2_with (first | (go_at_call 157;refine (zAn _ _).mono ?_;rintro e w' ⟨rfl,rfl⟩) | (go_at_call 158;refine (zAs _ _).mono ?_;rintro e w' ⟨rfl,rfl⟩))
    go_ret
    exact ⟨zAH hn.out.symm,(Below.refl _ _).alloc (Nat.le_refl _) _⟩
  ·have hn:Hid (zBH s=true):=name_yes s (by omega) (by omega) (fun j hj=>hall.out j (by omega))
   have hnx:∀ ty,(Instr.next (.pointer (some ⟨w.heap.size,0,none⟩)) true ty).run Tryz.prog (w.iter s k)=_:=fun ty=>run_next_end w s k ty hlt
   go_wp2
   go_ret
   exact ⟨zAH hn.out.symm,(Below.refl _ _).alloc (Nat.le_refl _) _⟩
end Go.Proofs.YticokpbelgpfmaaGreat.Nm
namespace Go.Proofs.YticokpbelgpfmaaGreat.Rq
open Go.RowKit
def inB (x a b:Int):Bool:=decide (a≤x∧x≤b)
theorem zAH {a b:Bool} (h:a=b):Ending.returned (.bool a)=.returned (.bool b):=by rw [h]
theorem zAO (x a b:Int) (w:World) :
 Calls Tryz.prog 60 #[.int .i64 x,.int .i64 a,.int .i64 b] w fun e w'=>e=.returned (.bool (inB x a b))∧w'=w:=by
 by_cases h1:a≤x
 ·by_cases h2:x≤b
  all_goals
   go_enter Tryz.func60,Tryz.ntmps60
   go_wp2
   go_ret
   exact ⟨zAH (by unfold inB;rw [Bool.eq_iff_iff];simp;try omega),rfl⟩
 ·go_enter Tryz.func60,Tryz.ntmps60
  go_wp2
  go_ret
  exact ⟨zAH (by unfold inB;rw [Bool.eq_iff_iff];simp;try omega),rfl⟩
theorem zAY (x a b:Int) (w:World) :
 Calls Tryz.prog 56 #[.int .i64 x,.int .i64 a,.int .i64 b] w fun e w'=>e=.returned (.bool (inB x a b))∧w'=w:=by
 by_cases h1:a≤x
 ·by_cases h2:x≤b
  all_goals
   go_enter Tryz.func56,Tryz.ntmps56
   go_wp2
   go_ret
   exact ⟨zAH (by unfold inB;rw [Bool.eq_iff_iff];simp;try omega),rfl⟩
 ·go_enter Tryz.func56,Tryz.ntmps56
  go_wp2
  go_ret
  exact ⟨zAH (by unfold inB;rw [Bool.eq_iff_iff];simp;try omega),rfl⟩
def opB (n:ByteArray):Bool:=decide (n.size≤12) && Nm.zBH n
theorem opNameOK_any (n:ByteArray) (w:World) (hs:n.size≤maxLen) :
 Calls Tryz.prog 100 #[.string n] w fun e w'=>e=.returned (.bool (opB n))∧Below w.heap.size w w':=by
 by_cases h:n.size≤12
 ·have h1:(n.size:Int)≤12:=by omega
  have HO:Hid (opB n=Nm.zBH n):=by show opB n=Nm.zBH n;unfold opB;simp [h]
  go_enter Tryz.func100,Tryz.ntmps100
  go_wp2_with (go_at_call 136;refine (Nm.implNameOK_any _ _ hs).mono ?_;rintro e w' ⟨rfl,hb⟩)
  go_ret
  exact ⟨zAH HO.out.symm,hb⟩
 ·have h1:(12:Int)<(n.size:Int):=by omega
  have HO:Hid (opB n=false):=by show opB n=false;unfold opB;simp [h]
  go_enter Tryz.func100,Tryz.ntmps100
  go_wp2
  go_ret
  exact ⟨zAH HO.out.symm,Below.refl _ _⟩
theorem zBb (n:ByteArray) (w:World) (hs:n.size≤maxLen) :
 Calls Tryz.prog 96 #[.string n,.int .i64 12] w fun e w'=>e=.returned (.bool (opB n))∧w'=w:=by
 cases h:inB (n.size:Int) 1 12
 ·have HO:Hid (opB n=false):=by
   show opB n=false
   unfold inB at h
   unfold opB Nm.zBH
   simp at h ⊢
   omega
  go_enter Tryz.func96,Tryz.ntmps96
  go_wp2_with (go_at_call 56;refine (zAY _ _ _ _).mono ?_;rintro e w' ⟨rfl,rfl⟩)
  go_ret
  exact ⟨zAH HO.out.symm,rfl⟩
 ·have HO:Hid (opB n=Nm.zBH n):=by
   show opB n=Nm.zBH n
   unfold inB at h
   unfold opB
   simp at h ⊢
   omega
  go_enter Tryz.func96,Tryz.ntmps96
  go_wp2_with (first | (go_at_call 56;refine (zAY _ _ _ _).mono ?_;rintro e w' ⟨rfl,rfl⟩) | (go_at_call 128;refine (Nm.specNameOK_any _ _ hs).mono ?_;rintro e w' ⟨rfl,rfl⟩))
  go_ret
  exact ⟨zAH HO.out.symm,rfl⟩
end Go.Proofs.YticokpbelgpfmaaGreat.Rq
namespace Go.Proofs.YticokpbelgpfmaaGreat.Op
open Go.ChangeShapes Go.WideShapes Go.ChangeAt Go.RowKit Go.Deep
section
variable {H:Type} {enc:TypeId × Value→H} {P:Program} {w:World} {base:Nat} {spare:Nat→Bool} {held:Bool}
theorem open_cells {r:Reach} {b0:Nat} {t:TypeId} {fs:Array Field} {v:Value} {d:DataW H} {p:List MemPlace} (hs:P.underlying t=some (.struct fs)) (hone:oneCellFields P fs=true)
 (hv:Value.okWide P w r b0 t v) (h:DataW.Trod enc P w base spare held t v d p) :
 ∃ cs:Array Value,v=.agg cs∧cs.size=P.cellsOf t∧∀ (i:Nat) (f:Field) (c:Value),fs[i]?=some f→cs[i]?=some c→∃ n y,DataW.trod enc P w base spare held n f.type [c]=some y:=by
 obtain ⟨cs,rfl,hsz⟩:=okWide_struct hs hv
 obtain ⟨fuel,hf⟩:=h
 obtain ⟨xs,n,_,_,hl,hlen,hfs⟩:=DataW.trod_struct hs hf
 refine ⟨cs,rfl,hsz,fun i f c hi hc=>?_⟩
 obtain ⟨o,k⟩:=hone_of hone i f hi
 have h1:=hfs i f hi
 have hix:i<xs.length:=by rw [hlen];exact (Array.getElem?_eq_some_iff.1 hi).1
 rw [List.getElem?_eq_getElem hix,o,k] at h1
 have h2:(((Value.agg cs).cells.toList).drop i).take 1=[c]:=by
  have h3:cs.toList[i]?=some c:=by simpa using hc
  have hlt:i<cs.toList.length:=(List.getElem?_eq_some_iff.1 h3).1
  rw [show (Value.agg cs).cells=cs from rfl,List.drop_eq_getElem_cons hlt,(List.getElem?_eq_some_iff.1 h3).2]
  rfl
 rw [h2] at h1
 exact ⟨n,_,h1⟩
theorem cell_int {k:IntKind} {t:TypeId} {c:Value} (ht:P.underlying t=some (.int k)) (h:∃ n y,DataW.trod enc P w base spare held n t [c]=some y):∃ a,c=.int k a∧(Lit.int k a).wf=true:=by
 obtain ⟨n,y,h⟩:=h
 obtain ⟨a,h1,_,h2⟩:=DataW.trod_int ht h
 exact ⟨a,by simpa using h1,h2⟩
theorem cell_string {t:TypeId} {c:Value} (ht:P.underlying t=some .string) (h:∃ n y,DataW.trod enc P w base spare held n t [c]=some y):∃ s:ByteArray,c=.string s∧s.size≤maxLen:=by
 obtain ⟨n,y,h⟩:=h
 obtain ⟨s,h1,_,h2⟩:=DataW.trod_string ht h
 exact ⟨s,by simpa using h1,h2⟩
end
end Go.Proofs.YticokpbelgpfmaaGreat.Op
