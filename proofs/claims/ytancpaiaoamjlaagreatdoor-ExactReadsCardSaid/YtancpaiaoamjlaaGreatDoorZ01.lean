/- What the proof rests on, part 1. -/
import Derived.Test.YtancpaiaoamjlaaGreatDoorZ00
import Derived.Deep.OwnRows
import Derived.Laws.IdiomCopy
import Derived.Lib.RowBridge
import Derived.Laws.Bits64
namespace Go.Proofs.YtancpaiaoamjlaaGreatDoor
set_option maxRecDepth 100000
set_option maxHeartbeats 80000000
section
open Go.RowKit Go.Sort
theorem AO {xs:List Nat}:val (xs.take xs.length)=val xs:=by rw [List.take_of_length_le (Nat.le_refl _)]
theorem UH (b o cp b2 o2 cp2 m:Nat) (xs bs:List Nat) (w:World) (hH:aB w b o xs) (hY:aF w b2 o2 bs) (hne:b2≠b∨o2+bs.length≤o∨o+xs.length≤o2)
  (hl:bs.length≤xs.length) (ha:Dig xs) (hb:Dig bs) (hm:m<B64) (hsz:xs.length≤1099511627776) :
  Calls Tryz.prog 117 #[.slice (some ⟨b,o,none⟩) xs.length cp,.slice (some ⟨b2,o2,none⟩) bs.length cp2,.int .u64 (m:Int)] w
   (pX w b o xs.length fun ds c=>jW xs bs ds m bs.length c):=by
 have h1:=rZ
 have hm64:=hid hm
 clear hm
 go_enter Tryz.func117,Tryz.ntmps117
 go_wp2
 go_loopw [7,14] (fun cv iv wr=>∃ (k c n:Nat) (dk:List Nat),iv=.int .i64 k∧cv=.int .u64 c∧k≤bs.length∧wr=aj w n b o dk∧jW xs bs dk m k c) (fun _ iv _=>bs.length - (intOf iv).toNat)
 case atStart=>exact ⟨0,0,0,xs,rfl,rfl,by omega,(jH w b o xs hH).symm,jW.start bs m ha⟩
 case round =>
  obtain ⟨k,c,n,dk,rfl,rfl,hk,hwr,hI⟩:=hrel
  have hdl:dk.length=xs.length:=hI.1.len
  by_cases hlt:k<bs.length
  ·obtain ⟨x,hx⟩:∃ x,dk[k]?.getD 0=x:=⟨_,rfl⟩
   obtain ⟨y,hy⟩:∃ y,bs[k]?.getD 0=y:=⟨_,rfl⟩
   have hx1:x<B64:=hx ▸ hI.1.dig.getD k
   have hy1:y<B64:=hy ▸ hb.getD k
   have hc1:c<B64:=hI.2.1
   have cx:wr.cell? ⟨b,o+k,none⟩=some (.int .u64 (x:Int)):=by
    have:=(bH w n b o xs dk hH hdl k (by omega)).1
    rw [hwr,this,hx]
   have cy:wr.cell? ⟨b2,o2+k,none⟩=some (.int .u64 (y:Int)):=by
    have:=(hY.aj (q:=n) (b:=b) (o:=o) (xs:=dk) (by omega)) k hlt
    rw [hwr,this,hy]
   have fx:wr.frozen? ⟨b,o+k,none⟩=false:=by
    have:=(hH k (by omega)).2
    rw [hwr,fM,this]
   obtain ⟨t1,t2⟩:=ZN hx1 hy1 hm64.out hc1 (qQ y m) (lV (mulL y m) c 0) (lV x (bF (mulL y m) c 0) 0)
   have HI:=hid (hI.step (s:=bF x (bF (mulL y m) c 0) 0) (by omega) (nP _ _ _) t1 (by rw [hx,hy];exact t2))
   have b1:iq y m+dX (mulL y m) c 0<18446744073709551616:=by unfold B64 at t1;omega
   have b2:iq y m+dX (mulL y m) c 0+dX x (bF (mulL y m) c 0) 0<18446744073709551616:=by unfold B64 at t1;omega
   have HW:=hid hwr
   have HL:Hid (dk.length=xs.length):=hdl
   have hyy:=hid hy1
   clear hwr hI hdl hx hy hH hY hx1 hy1 hc1 t1 t2
   go_wp2_with (go_at_call 84;refine (pJ _ _ hyy.out hm64.out _).mono ?_;rintro e w' ⟨rfl,rfl⟩)
   go_roundw
   case rel =>
    refine ⟨k+1,_,n,_,by go_num,?_,by omega,?_,HI.out⟩
    ·go_num
    rw [HW.out,iQ _ _ _ _ _ _ _ (by rw [HL.out];omega)]
   case measure=>simp [intOf];omega
  ·have hkl:k=bs.length:=by omega
   have HI:Hid (jW xs bs dk m bs.length c):=by rw [← hkl];exact hI
   have HL:Hid (dk.length=xs.length):=hdl
   clear hkl hI hdl
   go_wp2
   go_ret
   exact ⟨dk,c,n,rfl,rfl,HL.out,HI.out.1.dig,HI.out⟩
theorem RI (b o cp b2 o2 cp2 m:Nat) (xs bs:List Nat) (w:World) (hH:aB w b o xs) (hY:aF w b2 o2 bs) (hne:b2≠b∨o2+bs.length≤o∨o+xs.length≤o2)
  (hl:bs.length≤xs.length) (ha:Dig xs) (hb:Dig bs) (hm:m<B64) (hsz:xs.length≤1099511627776) :
  Calls Tryz.prog 138 #[.slice (some ⟨b,o,none⟩) xs.length cp,.slice (some ⟨b2,o2,none⟩) bs.length cp2,.int .u64 (m:Int)] w
   (pX w b o xs.length fun ds c=>kR xs bs ds m bs.length c):=by
 have h1:=rZ
 have h2:=N7
 have hm64:=hid hm
 clear hm
 go_enter Tryz.func138,Tryz.ntmps138
 go_wp2
 go_loopw [7,14] (fun cv iv wr=>∃ (k c n:Nat) (dk:List Nat),iv=.int .i64 k∧cv=.int .u64 c∧k≤bs.length∧wr=aj w n b o dk∧kR xs bs dk m k c) (fun _ iv _=>bs.length - (intOf iv).toNat)
 case atStart=>exact ⟨0,0,0,xs,rfl,rfl,by omega,(jH w b o xs hH).symm,kR.start bs m ha⟩
 case round =>
  obtain ⟨k,c,n,dk,rfl,rfl,hk,hwr,hI⟩:=hrel
  have hdl:dk.length=xs.length:=hI.1.len
  by_cases hlt:k<bs.length
  ·obtain ⟨x,hx⟩:∃ x,dk[k]?.getD 0=x:=⟨_,rfl⟩
   obtain ⟨y,hy⟩:∃ y,bs[k]?.getD 0=y:=⟨_,rfl⟩
   have hx1:x<B64:=hx ▸ hI.1.dig.getD k
   have hy1:y<B64:=hy ▸ hb.getD k
   have hc1:c<B64:=hI.2.1
   have cx:wr.cell? ⟨b,o+k,none⟩=some (.int .u64 (x:Int)):=by
    have:=(bH w n b o xs dk hH hdl k (by omega)).1
    rw [hwr,this,hx]
   have cy:wr.cell? ⟨b2,o2+k,none⟩=some (.int .u64 (y:Int)):=by
    have:=(hY.aj (q:=n) (b:=b) (o:=o) (xs:=dk) (by omega)) k hlt
    rw [hwr,this,hy]
   have fx:wr.frozen? ⟨b,o+k,none⟩=false:=by
    have:=(hH k (by omega)).2
    rw [hwr,fM,this]
   have hs1:=nP (mulL y m) c 0
   obtain ⟨t1,t2⟩:=ZL (x:=x) hy1 hm64.out hc1 (wV x (bF (mulL y m) c 0) 0) (qQ y m) (lV (mulL y m) c 0) (Az x (bF (mulL y m) c 0) 0 hx1 hs1 (by omega))
   have HI:=hid (hI.step (s:=jS x (bF (mulL y m) c 0) 0) (by omega) (wV _ _ _) t1 (by rw [hx,hy];exact t2))
   have b1:iq y m+dX (mulL y m) c 0<18446744073709551616:=by unfold B64 at t1;omega
   have b2:iq y m+dX (mulL y m) c 0+iT x (bF (mulL y m) c 0) 0<18446744073709551616:=by unfold B64 at t1;omega
   have HW:=hid hwr
   have HL:Hid (dk.length=xs.length):=hdl
   have hyy:=hid hy1
   clear hwr hI hdl hx hy hH hY hx1 hy1 hc1 t1 t2 hs1
   go_wp2_with (go_at_call 84;refine (pJ _ _ hyy.out hm64.out _).mono ?_;rintro e w' ⟨rfl,rfl⟩)
   go_roundw
   case rel =>
    refine ⟨k+1,_,n,_,by go_num,?_,by omega,?_,HI.out⟩
    ·go_num
    rw [HW.out,iQ _ _ _ _ _ _ _ (by rw [HL.out];omega)]
   case measure=>simp [intOf];omega
  ·have hkl:k=bs.length:=by omega
   have HI:Hid (kR xs bs dk m bs.length c):=by rw [← hkl];exact hI
   have HL:Hid (dk.length=xs.length):=hdl
   clear hkl hI hdl
   go_wp2
   go_ret
   exact ⟨dk,c,n,rfl,rfl,HL.out,HI.out.1.dig,HI.out⟩
theorem UJ (nx nb:Nat) (b o cp b2 o2 cp2 m:Nat) (xs bs:List Nat) (w:World) (hH:aB w b o xs) (hY:aF w b2 o2 bs) (hne:b2≠b∨o2+bs.length≤o∨o+xs.length≤o2)
  (hl:bs.length≤xs.length) (ha:Dig xs) (hb:Dig bs) (hm:m<B64) (hsz:xs.length≤1099511627776) (hnx:xs.length=nx) (hnb:bs.length=nb) :
  Calls Tryz.prog 117 #[.slice (some ⟨b,o,none⟩) nx cp,.slice (some ⟨b2,o2,none⟩) nb cp2,.int .u64 (m:Int)] w
   (pX w b o xs.length fun ds c=>jW xs bs ds m bs.length c):=by
 subst hnx hnb
 exact UH b o cp b2 o2 cp2 m xs bs w hH hY hne hl ha hb hm hsz
theorem RJ (nx nb:Nat) (b o cp b2 o2 cp2 m:Nat) (xs bs:List Nat) (w:World) (hH:aB w b o xs) (hY:aF w b2 o2 bs) (hne:b2≠b∨o2+bs.length≤o∨o+xs.length≤o2)
  (hl:bs.length≤xs.length) (ha:Dig xs) (hb:Dig bs) (hm:m<B64) (hsz:xs.length≤1099511627776) (hnx:xs.length=nx) (hnb:bs.length=nb) :
  Calls Tryz.prog 138 #[.slice (some ⟨b,o,none⟩) nx cp,.slice (some ⟨b2,o2,none⟩) nb cp2,.int .u64 (m:Int)] w
   (pX w b o xs.length fun ds c=>kR xs bs ds m bs.length c):=by
 subst hnx hnb
 exact RI b o cp b2 o2 cp2 m xs bs w hH hY hne hl ha hb hm hsz
end
section
open Go.RowKit Go.Sort
theorem Tryz.infoU:(Tryz.prog.info? 24).map (fun i=>(i.zero,i.size,i.bytes))=some (some (.int .u64 0),1,8):=by kernel_rfl
theorem Tryz.sizeU:(Tryz.prog.info? 24).map (·.size)=some 1:=by kernel_rfl
def aI (w:World) (n:Nat):World:=w.alloc (.cells (madeCells #[.int .u64 0] n) 24)
theorem dG (w:World) (n:Nat):(aI w n).heap.size=w.heap.size+1:=by unfold aI;simp
theorem ig (n:Nat) (hn:n≤2199023255552) (w:World) :
  (Instr.makeSlice 26 (.int .i64 (n:Int)) (.int .i64 (n:Int))).run Tryz.prog w=.ok (.slice (some ⟨w.heap.size,0,none⟩) n n) (aI w n):=
 run_make_row' 26 24 _ 8 Tryz.underlying26 Tryz.infoU rfl .i64 .i64 n (by omega) (by omega) w
theorem dP (w:World) (n:Nat):aB (aI w n) w.heap.size 0 (List.replicate n 0):=fun j hj=>by
 have hj':j<n:=by simpa using hj
 unfold aI
 rw [World.cell?_alloc_at _ _ _ _ rfl,World.frozen?_alloc_at _ _ _ _ rfl]
 refine ⟨?_,rfl⟩
 simp only [madeCells,Nat.zero_add,Array.getElem?_map,List.getElem?_replicate,hj',if_true]
 rw [Array.getElem?_eq_getElem (by simpa using hj')]
 simp [Nat.mod_one]
theorem bG (w:World) (n:Nat):Below w.heap.size w (aI w n):=(Below.refl _ _).alloc (Nat.le_refl _) _
theorem wO (w:World) (q b o k:Nat) (xs ys:List Nat) (h:aB w b o xs) (hl:k+ys.length≤xs.length):aj w q b (o+k) ys=aj w q b o (xs.take k ++ ys ++ xs.drop (k+ys.length)):=by
 unfold aj putRow
 refine mapBlock_congr _ _ _ _ fun c e fr hb=>?_
 apply Array.ext_getElem?
 intro j
 simp only [putCells,Array.getElem?_mapIdx,List.size_toArray,xP]
 have hlen:(xs.take k ++ ys ++ xs.drop (k+ys.length)).length=xs.length:=by simp;omega
 rw [hlen]
 cases hc:c[j]? with
 | none=>rfl
 | some v =>
  simp only [Option.map_some,Option.some.injEq]
  by_cases h1:o≤j∧j<o+xs.length
  ·rw [if_pos h1]
   have hx:=(h (j - o) (by omega)).1
   rw [show o+(j - o)=j by omega] at hx
   have hcell:w.cell? ⟨b,j,none⟩=some v:=by
    have hb':w.heap[b]? = some (.cells c e fr):=hb
    simp [World.cell?,hb',hc]
   rw [hcell] at hx
   have hv:v=E64 (xs[j - o]?.getD 0):=by simpa using hx
   by_cases h2:j - o<k
   ·rw [if_neg (by omega),hv,List.append_assoc,List.getElem?_append_left (by simp;omega),List.getElem?_take_of_lt h2]
   ·by_cases h3:j - o<k+ys.length
    ·rw [if_pos (by omega),List.append_assoc,List.getElem?_append_right (by simp;omega),List.getElem?_append_left (by simp;omega)]
     simp only [List.length_take,Nat.min_eq_left (show k≤xs.length by omega)]
     rw [show j - (o+k)=j - o - k by omega]
    ·rw [if_neg (by omega),hv,List.getElem?_append_right (by simp;omega),List.getElem?_drop]
     simp only [List.length_append,List.length_take,Nat.min_eq_left (show k≤xs.length by omega)]
     rw [show k+ys.length+(j - o - (k+ys.length))=j - o by omega]
  ·rw [if_neg h1,if_neg (by omega)]
theorem XR (w:World) (b o:Nat) (xs ys:List Nat) (h:aB w b o xs) (hl:ys.length≤xs.length):w.setCells b o (ys.map E64)=aj w 0 b o (ys ++ xs.drop ys.length):=by
 have h1:=wO w 0 b o 0 xs ys h (by omega)
 simp only [Nat.add_zero,List.take_zero,List.nil_append,Nat.zero_add] at h1
 rw [← h1]
 have h2:=Lib.putRow_eq_setCells E64 w b o (xs.take ys.length).toArray ys 0 (oJ.1 (h.take _)) (by simp;omega)
 exact h2.symm
theorem kX (ty:TypeId) (w:World) (b o n cp b2 o2 cp2:Nat) (xs ys:List Nat) (hx:aB w b o xs) (hy:aF w b2 o2 ys) (hn:xs.length=n) (hl:ys.length≤n) :
  (Builtin.copy_ #[26,26] ty #[.slice (some ⟨b,o,none⟩) n cp,.slice (some ⟨b2,o2,none⟩) ys.length cp2]).run Tryz.prog w=.ok (goInt ys.length) (aj w 0 b o (ys ++ xs.drop ys.length)):=by
 subst hn
 rw [← XR w b o xs ys hx hl]
 have:=run_copy_cells (P:=Tryz.prog) w 26 26 ty 24 b o xs.length cp ⟨b2,o2,none⟩ ys.length cp2 (ys.map E64) Tryz.underlying26 Tryz.sizeU (by rw [List.length_map];exact (Nat.min_eq_left hl).symm)
  (fun j v hv=>by
   have hj:j<ys.length:=by have:=(List.getElem?_eq_some_iff.1 hv).1;simpa using this
   rw [List.getElem?_map,List.getElem?_eq_getElem hj] at hv
   simp only [Option.map_some,Option.some.injEq] at hv
   have:=hy j hj
   rw [List.getElem?_eq_getElem hj] at this
   rw [← hv,show (⟨b2,o2,none⟩:Addr).add j=⟨b2,o2+j,none⟩ from by unfold Addr.add;split <;> simp_all]
   exact this)
  (fun j hj=>by rw [(hx j (by simp at hj;omega)).1];rfl) (fun j hj=>(hx j (by simp at hj;omega)).2) (fun v hv=>by
   obtain ⟨y,_,rfl⟩:=List.mem_map.1 hv
   rfl)
 rw [this,List.length_map]
theorem addr_add (b o k:Nat):(⟨b,o,none⟩:Addr).add k=⟨b,o+k,none⟩:=by unfold Addr.add;split <;> simp_all
theorem NU (b o n cp k:Nat) (hk:k≤n) (hc:k<cp) (w:World) :
  (Instr.slice 26 (.slice (some ⟨b,o,none⟩) n cp) (some (.int .i64 (k:Int))) none none).run Tryz.prog w=.ok (.slice (some ⟨b,o+k,none⟩) (n - k) (cp - k)) w:=by
 rw [run_slice_l w 26 (some ⟨b,o,none⟩) n cp (by kernel_rfl) .i64 k (by omega) (by omega)]
 simp only [Int.toNat_natCast]
 rw [show (sizeOf (Tryz.prog.elem 26)).run Tryz.prog w=.ok 1 w from by kernel_rfl]
 simp only [Result.andThen,sliced,Nat.mul_one]
 rw [if_neg (by omega),Option.map_some,addr_add]
theorem NT (b o n cp k h m:Nat) (hk:k≤h) (hh:h≤m) (hm:m≤cp) (hc:k<m) (w:World) :
  (Instr.slice 26 (.slice (some ⟨b,o,none⟩) n cp) (some (.int .i64 (k:Int))) (some (.int .i64 (h:Int))) (some (.int .i64 (m:Int)))).run Tryz.prog w=.ok (.slice (some ⟨b,o+k,none⟩) (h - k) (m - k)) w:=by
 rw [run_slice_lhm w 26 (some ⟨b,o,none⟩) n cp (by kernel_rfl) .i64 .i64 .i64 k h m (by omega) (by omega) (by omega) (by omega)]
 simp only [Int.toNat_natCast]
 rw [show (sizeOf (Tryz.prog.elem 26)).run Tryz.prog w=.ok 1 w from by kernel_rfl]
 simp only [Result.andThen,sliced,Nat.mul_one]
 rw [if_neg (by omega),Option.map_some,addr_add]
def bW (w:World) (n:Nat) (e:Ending) (w':World):Prop:=
 ∃ (b o cp:Nat) (ds:List Nat),e=.returned (.slice (some ⟨b,o,none⟩) ds.length cp)∧b<w'.heap.size∧ds.length≤cp∧Dig ds∧aC ds∧val ds=n∧aF w' b o ds∧Below w.heap.size w w'
theorem bW.mk {w w':World} {b o k n:Nat} {ds:List Nat} (hb:b<w'.heap.size) (hd:Dig ds) (ht:dN ds k) (hv:val ds=n) (hD:aF w' b o ds) (hB:Below w.heap.size w w'):bW w n (.returned (.slice (some ⟨b,o,none⟩) k k)) w':=by
 have hl:(ds.take k).length=k:=by rw [List.length_take];exact Nat.min_eq_left ht.1
 refine ⟨b,o,k,ds.take k,by rw [hl],hb,by omega,hd.take k,ht.trimmed,by rw [ht.val,hv],fun j hj=>?_,hB⟩
 rw [List.getElem?_take_of_lt (by omega)]
 exact hD j (by rw [hl] at hj;have:=ht.1;omega)
theorem XA (nx ny b o cp b2 o2 cp2:Nat) (xs ys:List Nat) (w:World) (hx:aF w b o xs) (hy:aF w b2 o2 ys) (hb:b<w.heap.size) (hb2:b2<w.heap.size) (dx:Dig xs) (dy:Dig ys) (hsx:xs.length≤549755813888) (hsy:ys.length≤xs.length) (hnx:xs.length=nx) (hny:ys.length=ny) :
  Calls Tryz.prog 107 #[.slice (some ⟨b,o,none⟩) nx cp,.slice (some ⟨b2,o2,none⟩) ny cp2] w (bW w (val xs+val ys)):=by
 subst hnx hny
 have hmk:=ig (xs.length+1) (by omega)
 rw [show ((xs.length+1:Nat):Int)=(xs.length:Int)+1 from by omega] at hmk
 have hcp:=kX 3 (aI w (xs.length+1)) w.heap.size 0 (xs.length+1) (xs.length+1) b o cp _ xs (dP w (xs.length+1)) (hx.below (bG w _) hb) (by simp) (by omega)
 have hZ:=dP w (xs.length+1)
 have e1:(List.replicate (xs.length+1) 0).drop xs.length=[0]:=by rw [List.drop_replicate,Nat.add_sub_cancel_left];rfl
 have HH:Hid (aB (aj (aI w (xs.length+1)) 0 w.heap.size 0 (xs ++ [0])) w.heap.size 0 (xs ++ [0])):=bH _ _ _ _ _ _ hZ (by simp)
 have HY:Hid (aF (aj (aI w (xs.length+1)) 0 w.heap.size 0 (xs ++ [0])) b2 o2 ys):=(hy.below (bG w _) hb2).aj (by left;omega)
 have HZ:=hid hZ
 rw [e1] at hcp
 clear e1 hZ hx hy
 go_enter Tryz.func107,Tryz.ntmps107
 go_wp2_with fail
 refine (EF _ _ w.heap.size 0 _ b2 o2 cp2 (xs ++ [0]) ys _ HH.out HY.out (by left;omega) (by simp;omega) (dx.append (fun d hd=>by simp at hd;subst hd;exact aT)) dy (by simp;omega) (by simp) rfl).mono ?_
 rintro e w' ⟨ds,c,q,rfl,rfl,hl,hd,hv⟩
 rw [qY _ _ _ _ _ _ _ (by simpa using hl),Nat.zero_add]
 have HL:=hid hl
 have hl1:ds.length=xs.length+1:=by simpa using hl
 have HV:=hid hv
 have HD:Hid (aB (aj (aI w (xs.length+1)) q w.heap.size 0 ds) w.heap.size 0 ds):=bH _ _ _ _ _ _ HZ.out (by simpa using hl1)
 have HL1:=hid hl1
 clear hl hv hl1 hcp hmk
 go_wp2_with fail
 refine (jT _ w.heap.size 0 _ ds _ HD.out.aK (by rw [HL1.out];omega) (by rw [HL1.out];exact Nat.le_refl _) HL1.out).mono ?_
 rintro e w' ⟨k,rfl,ht,rfl⟩
 have HT:=hid ht
 clear ht
 go_wp2
 go_ret
 refine bW.mk (by simp [dG]) hd HT.out ?_ HD.out.aK ((bG w _).trans (dV _ _ _ _ _ (Nat.le_refl _)))
 have h1:=HV.out
 have h2:=aV dx
 have h3:=aV dy
 have h4:B64 ^ ys.length≤B64 ^ xs.length:=Nat.pow_le_pow_right aT hsy
 have h5:val (xs ++ [0])=val xs:=by rw [iK];omega
 rw [h5] at h1
 have h6:(xs ++ [0]).length=xs.length+1:=by simp
 rw [h6,Nat.pow_succ] at h1
 have h7:2*B64 ^ xs.length≤B64 ^ xs.length*B64:=by rw [Nat.mul_comm];exact Nat.mul_le_mul_left _ (by decide)
 rcases Nat.eq_zero_or_pos c with h0 | h0
 ·subst h0;omega
 ·have:1*(B64 ^ xs.length*B64)≤c*(B64 ^ xs.length*B64):=Nat.mul_le_mul_right _ h0
  omega
theorem XB (nx ny b o cp b2 o2 cp2:Nat) (xs ys:List Nat) (w:World) (hx:aF w b o xs) (hy:aF w b2 o2 ys) (hb:b<w.heap.size) (hb2:b2<w.heap.size) (dx:Dig xs) (dy:Dig ys) (hsx:ys.length≤549755813888) (hsy:xs.length<ys.length) (hnx:xs.length=nx) (hny:ys.length=ny) :
  Calls Tryz.prog 107 #[.slice (some ⟨b,o,none⟩) nx cp,.slice (some ⟨b2,o2,none⟩) ny cp2] w (bW w (val xs+val ys)):=by
 subst hnx hny
 have hle:xs.length≤ys.length:=by omega
 have hmk:=ig (ys.length+1) (by omega)
 rw [show ((ys.length+1:Nat):Int)=(ys.length:Int)+1 from by omega] at hmk
 have hcp:=kX 3 (aI w (ys.length+1)) w.heap.size 0 (ys.length+1) (ys.length+1) b2 o2 cp2 _ ys (dP w (ys.length+1)) (hy.below (bG w _) hb2) (by simp) (by omega)
 have hZ:=dP w (ys.length+1)
 have e1:(List.replicate (ys.length+1) 0).drop ys.length=[0]:=by rw [List.drop_replicate,Nat.add_sub_cancel_left];rfl
 have HH:Hid (aB (aj (aI w (ys.length+1)) 0 w.heap.size 0 (ys ++ [0])) w.heap.size 0 (ys ++ [0])):=bH _ _ _ _ _ _ hZ (by simp)
 have HY:Hid (aF (aj (aI w (ys.length+1)) 0 w.heap.size 0 (ys ++ [0])) b o xs):=(hx.below (bG w _) hb).aj (by left;omega)
 have HZ:=hid hZ
 rw [e1] at hcp
 clear e1 hZ hy hx
 go_enter Tryz.func107,Tryz.ntmps107
 go_wp2_with fail
 refine (EF _ _ w.heap.size 0 _ b o cp (ys ++ [0]) xs _ HH.out HY.out (by left;omega) (by simp;omega) (dy.append (fun d hd=>by simp at hd;subst hd;exact aT)) dx (by simp;omega) (by simp) rfl).mono ?_
 rintro e w' ⟨ds,c,q,rfl,rfl,hl,hd,hv⟩
 rw [qY _ _ _ _ _ _ _ (by simpa using hl),Nat.zero_add]
 have HL:=hid hl
 have hl1:ds.length=ys.length+1:=by simpa using hl
 have HV:=hid hv
 have HD:Hid (aB (aj (aI w (ys.length+1)) q w.heap.size 0 ds) w.heap.size 0 ds):=bH _ _ _ _ _ _ HZ.out (by simpa using hl1)
 have HL1:=hid hl1
 clear hl hv hl1 hcp hmk
 go_wp2_with fail
 refine (jT _ w.heap.size 0 _ ds _ HD.out.aK (by rw [HL1.out];omega) (by rw [HL1.out];exact Nat.le_refl _) HL1.out).mono ?_
 rintro e w' ⟨k,rfl,ht,rfl⟩
 have HT:=hid ht
 clear ht
 go_wp2
 go_ret
 refine bW.mk (by simp [dG]) hd HT.out ?_ HD.out.aK ((bG w _).trans (dV _ _ _ _ _ (Nat.le_refl _)))
 have h1:=HV.out
 have h2:=aV dy
 have h3:=aV dx
 have h4:B64 ^ xs.length≤B64 ^ ys.length:=Nat.pow_le_pow_right aT hle
 have h5:val (ys ++ [0])=val ys:=by rw [iK];omega
 rw [h5] at h1
 have h6:(ys ++ [0]).length=ys.length+1:=by simp
 rw [h6,Nat.pow_succ] at h1
 have h7:2*B64 ^ ys.length≤B64 ^ ys.length*B64:=by rw [Nat.mul_comm];exact Nat.mul_le_mul_left _ (by decide)
 rcases Nat.eq_zero_or_pos c with h0 | h0
 ·subst h0;omega
 ·have:1*(B64 ^ ys.length*B64)≤c*(B64 ^ ys.length*B64):=Nat.mul_le_mul_right _ h0
  omega
theorem FU (nx ny b o cp b2 o2 cp2:Nat) (xs ys:List Nat) (w:World) (hx:aF w b o xs) (hy:aF w b2 o2 ys) (hb:b<w.heap.size) (hb2:b2<w.heap.size) (dx:Dig xs) (dy:Dig ys) (hsx:xs.length≤549755813888) (hsy:ys.length≤549755813888) (hnx:xs.length=nx) (hny:ys.length=ny) :
  Calls Tryz.prog 107 #[.slice (some ⟨b,o,none⟩) nx cp,.slice (some ⟨b2,o2,none⟩) ny cp2] w (bW w (val xs+val ys)):=by
 rcases Nat.lt_or_ge xs.length ys.length with h | h
 ·exact XB nx ny b o cp b2 o2 cp2 xs ys w hx hy hb hb2 dx dy hsy h hnx hny
 ·exact XA nx ny b o cp b2 o2 cp2 xs ys w hx hy hb hb2 dx dy hsx h hnx hny
theorem VU (nx ny b o cp b2 o2 cp2:Nat) (xs ys:List Nat) (w:World) (hx:aF w b o xs) (hy:aF w b2 o2 ys) (hb:b<w.heap.size) (hb2:b2<w.heap.size) (dx:Dig xs) (dy:Dig ys) (hsx:xs.length≤549755813888) (hsy:ys.length≤xs.length) (hv:val ys≤val xs) (hnx:xs.length=nx) (hny:ys.length=ny) :
  Calls Tryz.prog 108 #[.slice (some ⟨b,o,none⟩) nx cp,.slice (some ⟨b2,o2,none⟩) ny cp2] w (bW w (val xs - val ys)):=by
 subst hnx hny
 have hmk:=ig xs.length (by omega)
 have hcp:=kX 3 (aI w xs.length) w.heap.size 0 xs.length xs.length b o cp _ xs (dP w xs.length) (hx.below (bG w _) hb) (by simp) (by omega)
 have hZ:=dP w xs.length
 have e1:(List.replicate xs.length 0).drop xs.length=([]:List Nat):=by rw [List.drop_replicate,Nat.sub_self];rfl
 have HH:Hid (aB (aj (aI w xs.length) 0 w.heap.size 0 xs) w.heap.size 0 xs):=bH _ _ _ _ _ _ hZ (by simp)
 have HY:Hid (aF (aj (aI w xs.length) 0 w.heap.size 0 xs) b2 o2 ys):=(hy.below (bG w _) hb2).aj (by left;omega)
 have HZ:=hid hZ
 rw [e1,List.append_nil] at hcp
 clear e1 hZ hx hy
 go_enter Tryz.func108,Tryz.ntmps108
 go_wp2_with fail
 refine (RP _ _ w.heap.size 0 _ b2 o2 cp2 xs ys _ HH.out HY.out (by left;omega) hsy dx dy hv (by omega) rfl rfl).mono ?_
 rintro e w' ⟨ds,q,rfl,rfl,hl,hd,hv2⟩
 rw [qY _ _ _ _ _ _ _ hl,Nat.zero_add]
 have HV:=hid hv2
 have HD:Hid (aB (aj (aI w xs.length) q w.heap.size 0 ds) w.heap.size 0 ds):=bH _ _ _ _ _ _ HZ.out (by simpa using hl)
 have HL1:=hid hl
 clear hl hv2 hcp hmk
 go_wp2_with fail
 refine (jT _ w.heap.size 0 _ ds _ HD.out.aK (by rw [HL1.out];omega) (by rw [HL1.out];exact Nat.le_refl _) HL1.out).mono ?_
 rintro e w' ⟨k,rfl,ht,rfl⟩
 have HT:=hid ht
 clear ht
 go_wp2
 go_ret
 exact bW.mk (by simp [dG]) hd HT.out (by have:=HV.out;omega) HD.out.aK ((bG w _).trans (dV _ _ _ _ _ (Nat.le_refl _)))
end
section
open Go.RowKit Go.Sort
def Prod (xs ys pk:List Nat) (k:Nat):Prop:=pk.length=xs.length+ys.length∧Dig pk∧(∀ j:Nat,k+xs.length≤j→pk[j]?.getD 0=0)∧val pk=val xs*val (ys.take k)
theorem Prod.start (xs ys:List Nat):Prod xs ys (List.replicate (xs.length+ys.length) 0) 0:=by
 refine ⟨by simp,fun d hd=>by rw [List.eq_of_mem_replicate hd];exact aT,fun j _=>?_,by rw [uV];simp [iU]⟩
 rw [List.getElem?_replicate]
 split <;> rfl
theorem Prod.step {xs ys pk ds:List Nat} {k y c:Nat} (h:Prod xs ys pk k) (hk:k<ys.length) (hy:ys[k]?.getD 0=y) (hds:jW (pk.drop k) xs ds y xs.length c) :
  Prod xs ys ((pk.take k ++ ds).set (k+xs.length) c) (k+1):=by
 obtain ⟨hl,hd,hz,hv⟩:=h
 obtain ⟨hp,hc,hs⟩:=hds
 have hdl:ds.length=xs.length+ys.length - k:=by rw [hp.len,List.length_drop,hl]
 have htk:(pk.take k).length=k:=by rw [List.length_take];omega
 have hlen:(pk.take k ++ ds).length=xs.length+ys.length:=by rw [List.length_append,htk,hdl];omega
 have ez:∀ j:Nat,(ds.drop xs.length)[j]?.getD 0=0:=fun j=>by
  rw [hp.rest,List.getElem?_drop,List.getElem?_drop]
  exact hz _ (by omega)
 refine ⟨by rw [List.length_set,hlen],((hd.take k).append hp.dig).set _ hc,fun j hj=>?_,?_⟩
 ·rw [List.getElem?_set_ne (by omega),List.getElem?_append_right (by rw [htk];omega),htk]
  have:=ez (j - k - xs.length)
  rw [List.getElem?_drop] at this
  rwa [show xs.length+(j - k - xs.length)=j - k by omega] at this
 ·have e1:(pk.take k ++ ds).set (k+xs.length) c=pk.take k ++ ds.set xs.length c:=by
   rw [List.set_append_right _ _ (by rw [htk];omega),htk,Nat.add_sub_cancel_left]
  have e2:val (ds.set xs.length c)=val (ds.take xs.length)+B64 ^ xs.length*c:=by
   rw [cO (ds.set xs.length c) (xs.length+1) (by rw [List.length_set];omega),uU ds xs.length c (by omega),yH,wX (ds.drop (xs.length+1)) (fun j=>by
    have:=ez (j+1)
    rw [List.getElem?_drop] at this ⊢
    rwa [show xs.length+(j+1)=xs.length+1+j by omega] at this)]
   omega
  have e3:val (pk.drop k)=val ((pk.drop k).take xs.length):=by
   rw [cO (pk.drop k) xs.length (by rw [List.length_drop];omega),wX ((pk.drop k).drop xs.length) (fun j=>by
    rw [List.getElem?_drop,List.getElem?_drop]
    exact hz _ (by omega))]
   omega
  have e4:val (pk.take k)+B64 ^ k*val ((pk.drop k).take xs.length)=val xs*val (ys.take k):=by rw [← e3,← hv,← cO pk k (by omega)]
  rw [e1,val_append,htk,e2,iV ys k,hy]
  rw [List.take_of_length_le (Nat.le_refl xs.length)] at hs
  generalize val (ys.take k)=Y at *
  generalize val (pk.take k)=E at *
  generalize val (ds.take xs.length)=A at *
  generalize val ((pk.drop k).take xs.length)=C at *
  generalize val xs=X at *
  generalize B64 ^ xs.length=P at *
  generalize B64 ^ k=Q at *
  have:Q*(A+c*P)=Q*(C+y*X):=by rw [hs]
  grind
theorem ZR {w wr:World} {q k q1 b2 o2 y:Nat} {xs ys pk ds:List Nat} (hb2:b2<w.heap.size) (hZ:aB (aI w (xs.length+ys.length)) w.heap.size 0 (List.replicate (xs.length+ys.length) 0))
  (hW:wr=aj (aI w (xs.length+ys.length)) q w.heap.size 0 pk) (hH:aB wr w.heap.size 0 pk) (hpl:pk.length=xs.length+ys.length) (hk:k<ys.length) (hl:ds.length=(pk.drop k).length)
  (cy:wr.cell? ⟨b2,o2+k,none⟩=some (.int .u64 (y:Int))) :
  ∃ W2,aj wr.drew q1 w.heap.size k ds=W2∧Hid (W2=aj (aI w (xs.length+ys.length)) (q+(1+q1)) w.heap.size 0 (pk.take k ++ ds))∧aB W2 w.heap.size 0 (pk.take k ++ ds)∧W2.cell? ⟨b2,o2+k,none⟩=some (.int .u64 (y:Int)):=by
 have hdl:ds.length=xs.length+ys.length - k:=by rw [hl,List.length_drop,hpl]
 have hlen:(pk.take k ++ ds).length=pk.length:=by rw [List.length_append,List.length_take];omega
 have e:aj wr.drew q1 w.heap.size k ds=aj (aI w (xs.length+ys.length)) (q+(1+q1)) w.heap.size 0 (pk.take k ++ ds):=by
  have h1:=wO wr.drew q1 w.heap.size 0 k pk ds hH (by omega)
  rw [Nat.zero_add] at h1
  rw [h1,List.drop_of_length_le (by omega),List.append_nil,hW,uI,qY _ _ _ _ _ _ _ hlen,Nat.add_assoc]
 refine ⟨_,rfl,e,?_,?_⟩
 ·rw [e];exact bH _ _ _ _ _ _ hZ (by rw [hlen,hpl];simp)
 ·rw [dB _ _ _ _ _ _ (by left;simp only;omega)];exact cy
theorem ZO {W:World} {B k:Nat} {xs ys pk ds:List Nat} (hk:k<ys.length) (hpl:pk.length=xs.length+ys.length) (hl:ds.length=(pk.drop k).length) (h:aB W B 0 (pk.take k ++ ds)) :
  ∃ z:Nat,W.cell? ⟨B,k+xs.length,none⟩=some (.int .u64 (z:Int))∧W.frozen? ⟨B,k+xs.length,none⟩=false:=by
 have:=h (k+xs.length) (by rw [List.length_append,List.length_take,hl,List.length_drop,hpl];omega)
 rw [Nat.zero_add] at this
 exact ⟨_,this.1,this.2⟩
theorem GH (nx ny b o cp b2 o2 cp2:Nat) (xs ys:List Nat) (w:World) (hx:aF w b o xs) (hy:aF w b2 o2 ys) (hb:b<w.heap.size) (hb2:b2<w.heap.size) (dx:Dig xs) (dy:Dig ys) (hsx:xs.length≤549755813888) (hsy:ys.length≤549755813888) (hnx:xs.length=nx) (hny:ys.length=ny) :
  Calls Tryz.prog 86 #[.slice (some ⟨b,o,none⟩) nx cp,.slice (some ⟨b2,o2,none⟩) ny cp2] w (bW w (val xs*val ys)):=by
 subst hnx hny
 have hmk:=ig (xs.length+ys.length) (by omega)
 rw [show ((xs.length+ys.length:Nat):Int)=(xs.length:Int)+(ys.length:Int) from by omega] at hmk
 have hZ:=dP w (xs.length+ys.length)
 have HX:Hid (aF (aI w (xs.length+ys.length)) b o xs):=hx.below (bG w _) hb
 have HY:Hid (aF (aI w (xs.length+ys.length)) b2 o2 ys):=hy.below (bG w _) hb2
 have HZ:=hid hZ
 clear hZ hx hy
 go_enter Tryz.func86,Tryz.ntmps86
 go_wp2
 go_loopw [15] (fun iv wr=>∃ (k q:Nat) (pk:List Nat),iv=.int .i64 k∧k≤ys.length∧wr=aj (aI w (xs.length+ys.length)) q w.heap.size 0 pk∧Prod xs ys pk k) (fun iv _=>ys.length - (intOf iv).toNat)
 case atStart=>exact ⟨0,0,_,rfl,by omega,(jH _ _ _ _ HZ.out).symm,Prod.start xs ys⟩
 case round =>
  clear hmk
  obtain ⟨k,q,pk,rfl,hk,hwr,hP⟩:=hrel
  have hpl:=hP.1
  have hH:aB wr w.heap.size 0 pk:=by rw [hwr];exact bH _ _ _ _ _ _ HZ.out (by simpa using hpl)
  by_cases hlt:k<ys.length
  ·obtain ⟨y,hyk⟩:∃ y,ys[k]?.getD 0=y:=⟨_,rfl⟩
   have cy:wr.cell? ⟨b2,o2+k,none⟩=some (.int .u64 (y:Int)):=by
    have:=(HY.out.aj (q:=q) (b:=w.heap.size) (o:=0) (xs:=pk) (by omega)) k hlt
    rw [hwr,this,hyk]
   have HXw:Hid (aF wr b o xs):=by rw [hwr];exact HX.out.aj (by omega)
   have HH:=hid hH
   have HP:=hid hP
   have HW:=hid hwr
   have HPL:=hid hpl
   have HYK:=hid hyk
   have hy1:Hid (y<B64):=by rw [← hyk];exact dy.getD k
   clear hwr hP hpl hyk hH
   have hsl:=NU w.heap.size 0 (xs.length+ys.length) (xs.length+ys.length) k (by omega) (by omega)
   rw [Nat.zero_add] at hsl
   have hHd:aB wr.drew w.heap.size k (pk.drop k):=by have:=HH.out.drop k;rw [Nat.zero_add] at this;exact this
   have HHd:=hid hHd
   have ew:IntKind.i64.wrap ((k:Int)+(xs.length:Int))=(k:Int)+(xs.length:Int):=IntWalk.i64_in _ (by omega)
   have en:((k:Int)+(xs.length:Int)).toNat=k+xs.length:=by omega
   have e0:(0:Int)≤(k:Int)+(xs.length:Int):=by omega
   have e1:(k:Int)+(xs.length:Int)<(xs.length:Int)+(ys.length:Int):=by omega
   have hnb:¬ w.heap.size=b2:=by omega
   clear hHd
   go_wp2
   go_region_held3 (fun w'=>w'.cell? ⟨b2,o2+k,none⟩=some (.int .u64 (y:Int))) (go_keep)
    (first | (go_at_call 117;refine (UJ _ _ w.heap.size k _ b o cp y (pk.drop k) xs _ HHd.out HXw.out (by omega) (by rw [List.length_drop,HPL.out];omega) (HP.out.2.1.drop k) dx hy1.out (by rw [List.length_drop,HPL.out];omega) (by rw [List.length_drop,HPL.out]) rfl).mono ?_;rintro e w' ⟨ds,c,q1,rfl,rfl,hl,hd,hv⟩;obtain ⟨W2,hW2,HW2,HH2,cy2⟩:=ZR hb2 HZ.out HW.out HH.out HPL.out hlt hl cy;rw [hW2];obtain ⟨z,cz,fz⟩:=ZO hlt HPL.out hl HH2;have HV:=hid hv;have HLL:=hid hl;have HH3:=hid HH2;clear hv hl HH2 hW2))
   clear ew en e0 e1
   go_wp2
   go_roundw
   case rel =>
    have hset:=iQ (aI w (xs.length+ys.length)) (q+(1+q1)) w.heap.size 0 (pk.take k ++ ds) (k+xs.length) c (by rw [List.length_append,List.length_take,HLL.out,List.length_drop,HPL.out];omega)
    rw [Nat.zero_add] at hset
    exact ⟨k+1,_,_,by go_num,by omega,by rw [HW2.out];exact hset,HP.out.step hlt HYK.out HV.out⟩
   case measure=>simp [intOf];omega
  ·have hkl:k=ys.length:=by omega
   have HV:Hid (val pk=val xs*val ys):=by have:=hP.2.2.2;rw [hkl,AO] at this;exact this
   have HH:=hid hH
   have HD:=hid hP.2.1
   have HPL:=hid hpl
   have HW:=hid hwr
   clear hkl hP hpl hwr hH
   go_wp2_with fail
   refine (jT _ w.heap.size 0 _ pk _ HH.out.aK (by rw [HPL.out];omega) (by rw [HPL.out];exact Nat.le_refl _) HPL.out).mono ?_
   rintro e w' ⟨n,rfl,ht,rfl⟩
   have HT:=hid ht
   clear ht
   go_wp2
   go_ret
   refine bW.mk (by rw [HW.out];simp [dG]) HD.out HT.out HV.out HH.out.aK ?_
   rw [HW.out]
   exact (bG w _).trans (dV _ _ _ _ _ (Nat.le_refl _))
end
section
theorem jU (n:Nat) (hn:n≤64):2 ^ n*2 ^ (64 - n)=B64:=by
 rw [← Nat.pow_add,show n+(64 - n)=64 by omega];rfl
theorem LD (a b i:Nat) (hb:b<2 ^ i):(a*2 ^ i) ||| b=a*2 ^ i+b:=by
 have:=Nat.shiftLeft_add_eq_or_of_lt hb a
 rw [Nat.shiftLeft_eq] at this
 exact this.symm
theorem Ci (a b:Nat) (ha:a<B64) (hb:b<B64):bits .or .u64 (a:Int) (b:Int)=((a ||| b:Nat):Int):=by
 unfold B64 at *
 have hx:a ||| b<2 ^ 64:=Nat.or_lt_two_pow (by omega) (by omega)
 have h1:(BitVec.ofInt 64 (a:Int)).toNat=a:=by
  rw [BitVec.ofInt_natCast,BitVec.toNat_ofNat];exact Nat.mod_eq_of_lt (by omega)
 have h2:(BitVec.ofInt 64 (b:Int)).toNat=b:=by
  rw [BitVec.ofInt_natCast,BitVec.toNat_ofNat];exact Nat.mod_eq_of_lt (by omega)
 show IntKind.u64.wrap ((BitVec.ofInt 64 (a:Int) ||| BitVec.ofInt 64 (b:Int)).toNat:Int)=_
 rw [BitVec.toNat_or,h1,h2,IntKind.wrap_u64]
 omega
theorem lN (x:Nat):IntKind.u64.wrap (x:Int)=((x % B64:Nat):Int):=by rw [IntKind.wrap_u64];unfold B64;omega
theorem Zj (n x:Nat) (hn:n≤64):x*2 ^ n % B64=x % 2 ^ (64 - n)*2 ^ n:=by
 rw [← jU n hn,Nat.mul_comm (2 ^ n) (2 ^ (64 - n)),Nat.mul_mod_mul_right]
theorem GV (n x:Nat) (hn:n≤64):IntKind.u64.wrap ((x:Int)*2 ^ n)=((x % 2 ^ (64 - n)*2 ^ n:Nat):Int):=by
 rw [show ((x:Int)*2 ^ n)=((x*2 ^ n:Nat):Int) by push_cast;rfl,lN,Zj n x hn]
theorem Gt (n x:Nat):(x:Int) / 2 ^ n=((x / 2 ^ n:Nat):Int):=by push_cast;rfl
def iH (n x y:Nat):Nat:=x % 2 ^ (64 - n)*2 ^ n+y / 2 ^ (64 - n)
def rH (n x y:Nat):Nat:=x / 2 ^ n+y % 2 ^ n*2 ^ (64 - n)
theorem wW (n y:Nat) (hn:n≤64) (hy:y<B64):y / 2 ^ (64 - n)<2 ^ n:=by
 rw [Nat.div_lt_iff_lt_mul (Nat.two_pow_pos _),jU n hn];exact hy
theorem Jt (n x:Nat) (hn:n≤64) (hx:x<B64):x / 2 ^ n<2 ^ (64 - n):=by
 rw [Nat.div_lt_iff_lt_mul (Nat.two_pow_pos _),Nat.mul_comm,jU n hn];exact hx
theorem tZ (n x c:Nat) (hn:n≤64) (hc:c<2 ^ n):x % 2 ^ (64 - n)*2 ^ n+c<B64:=by
 have h1:x % 2 ^ (64 - n)<2 ^ (64 - n):=Nat.mod_lt _ (Nat.two_pow_pos _)
 have h2:(x % 2 ^ (64 - n)+1)*2 ^ n≤2 ^ (64 - n)*2 ^ n:=Nat.mul_le_mul_right _ h1
 rw [Nat.mul_comm (2 ^ (64 - n)) (2 ^ n),jU n hn,Nat.add_mul] at h2
 omega
theorem Zi (n x y:Nat) (hn:n≤64) (hy:y<B64):iH n x y<B64:=tZ n x _ hn (wW n y hn hy)
theorem Zq (n x y:Nat) (hn:n≤64) (hx:x<B64):rH n x y<B64:=by
 have:=tZ (64 - n) y (x / 2 ^ n) (by omega) (by have:=Jt n x hn hx;exact this)
 rw [show 64 - (64 - n)=n by omega] at this
 unfold rH;omega
theorem Gq (n x y:Nat) (hn:n≤64) (hy:y<B64):bits .or .u64 (IntKind.u64.wrap ((x:Int)*2 ^ n)) ((y:Int) / 2 ^ (64 - n))=((iH n x y:Nat):Int):=by
 have h0:=wW n y hn hy
 have h1:=tZ n x 0 hn (Nat.two_pow_pos _)
 rw [GV n x hn,Gt,Ci _ _ (by omega) (Nat.lt_of_le_of_lt (Nat.div_le_self _ _) hy),LD _ _ _ h0]
 rfl
theorem Zp (n x y:Nat) (hn:n≤64) (hx:x<B64):bits .or .u64 ((x:Int) / 2 ^ n) (IntKind.u64.wrap ((y:Int)*2 ^ (64 - n)))=((rH n x y:Nat):Int):=by
 have h0:=Jt n x hn hx
 have h1:=tZ (64 - n) y 0 (by omega) (Nat.two_pow_pos _)
 rw [show 64 - (64 - n)=n by omega] at h1
 rw [GV (64 - n) y (by omega),Gt,show 64 - (64 - n)=n by omega,Ci _ _ (Nat.lt_of_le_of_lt (Nat.div_le_self _ _) hx) (by omega),Nat.or_comm,LD _ _ _ h0,Nat.add_comm]
 rfl
def raised (n:Nat):Nat→List Nat→List Nat
 | _,[]=>[]
 | c,x :: xs=>(x % 2 ^ (64 - n)*2 ^ n+c) :: raised n (x / 2 ^ (64 - n)) xs
theorem Vy (n c:Nat) (xs:List Nat):(raised n c xs).length=xs.length:=by
 induction xs generalizing c with
 | nil=>rfl
 | cons x xs ih=>simp [raised,ih]
theorem MK (n c:Nat) (xs:List Nat) (h:xs≠[]):(raised n c xs)[0]?.getD 0=xs[0]?.getD 0 % 2 ^ (64 - n)*2 ^ n+c:=by
 cases xs with
 | nil=>exact absurd rfl h
 | cons x xs=>rfl
theorem MI (n c:Nat) (xs:List Nat) (j:Nat) (h:j+1<xs.length):(raised n c xs)[j+1]?.getD 0=iH n (xs[j+1]?.getD 0) (xs[j]?.getD 0):=by
 induction xs generalizing c j with
 | nil=>simp at h
 | cons x xs ih =>
  cases j with
  | zero =>
   have hne:xs≠[]:=by intro e;subst e;simp at h
   have:=MK n (x / 2 ^ (64 - n)) xs hne
   simp only [raised,Nat.zero_add,List.getElem?_cons_succ,List.getElem?_cons_zero,Option.getD_some]
   rw [this];rfl
  | succ j =>
   have:=ih (x / 2 ^ (64 - n)) j (by simpa using h)
   simpa [raised] using this
theorem X5 (n c:Nat) (xs:List Nat) (hn:n≤64) (hx:Dig xs) (hc:c<2 ^ n):Dig (raised n c xs):=by
 induction xs generalizing c with
 | nil=>exact Dig.nil
 | cons x xs ih =>
  intro d hd
  rcases List.mem_cons.1 hd with h | h
  ·rw [h];exact tZ n x c hn hc
  ·exact ih _ (fun d hd=>hx d (by simp [hd])) (wW n x hn (hx x (by simp))) d h
theorem F6 (n c:Nat) (xs:List Nat) (hn:n≤64) (hx:Dig xs) (hc:c<2 ^ n):∃ r,val (raised n c xs)+B64 ^ xs.length*r=val xs*2 ^ n+c:=by
 induction xs generalizing c with
 | nil=>exact ⟨c,by simp [raised,val]⟩
 | cons x xs ih =>
  obtain ⟨r,hr⟩:=ih (x / 2 ^ (64 - n)) (fun d hd=>hx d (by simp [hd])) (wW n x hn (hx x (by simp)))
  refine ⟨r,?_⟩
  have e:x=x % 2 ^ (64 - n)+2 ^ (64 - n)*(x / 2 ^ (64 - n)):=(Nat.mod_add_div _ _).symm
  have e2:B64=2 ^ n*2 ^ (64 - n):=(jU n hn).symm
  simp only [raised,gV,List.length_cons,Nat.pow_succ]
  generalize x % 2 ^ (64 - n)=a at *
  generalize x / 2 ^ (64 - n)=q at *
  generalize val (raised n q xs)=R at *
  generalize val xs=V at *
  generalize B64 ^ xs.length=P at *
  generalize 2 ^ (64 - n)=S at *
  generalize 2 ^ n=T at *
  subst e
  have:B64*(R+P*r)=B64*(V*T+q):=by rw [hr]
  grind
def lowered (n:Nat):List Nat→List Nat
 | []=>[]
 | x :: xs=>rH n x (xs[0]?.getD 0) :: lowered n xs
theorem Vx (n:Nat) (xs:List Nat):(lowered n xs).length=xs.length:=by
 induction xs with
 | nil=>rfl
 | cons x xs ih=>simp [lowered,ih]
theorem VE (n:Nat) (xs:List Nat) (j:Nat) (h:j<xs.length):(lowered n xs)[j]?.getD 0=rH n (xs[j]?.getD 0) (xs[j+1]?.getD 0):=by
 induction xs generalizing j with
 | nil=>simp at h
 | cons x xs ih =>
  cases j with
  | zero=>simp [lowered]
  | succ j =>
   have:=ih j (by simpa using h)
   simpa [lowered] using this
theorem VD (n:Nat) (xs:List Nat) (hn:n≤64) (hx:Dig xs):Dig (lowered n xs):=by
 induction xs with
 | nil=>exact Dig.nil
 | cons x xs ih =>
  intro d hd
  rcases List.mem_cons.1 hd with h | h
  ·rw [h];exact Zq n x _ hn (hx x (by simp))
  ·exact ih (fun d hd=>hx d (by simp [hd])) d h
theorem VF (n:Nat) (xs:List Nat) (hn:n≤64):val (lowered n xs)=val xs / 2 ^ n:=by
 induction xs with
 | nil=>simp [lowered,val]
 | cons x xs ih =>
  have e2:B64=2 ^ n*2 ^ (64 - n):=(jU n hn).symm
  have hm:(xs[0]?.getD 0) % 2 ^ n=val xs % 2 ^ n:=by
   cases xs with
   | nil=>simp [val]
   | cons h t =>
    rw [gV,e2,Nat.mul_assoc,Nat.add_mul_mod_self_left];rfl
  simp only [lowered,gV,ih]
  have e3:val xs=val xs % 2 ^ n+2 ^ n*(val xs / 2 ^ n):=(Nat.mod_add_div _ _).symm
  rw [rH,hm]
  have e4:x+B64*val xs=x+2 ^ n*(2 ^ (64 - n)*val xs):=by rw [e2,Nat.mul_assoc]
  rw [e4,Nat.add_mul_div_left _ _ (Nat.two_pow_pos _),Nat.add_assoc]
  congr 1
  rw [e2]
  generalize val xs % 2 ^ n=m at *
  generalize val xs / 2 ^ n=d at *
  generalize 2 ^ (64 - n)=S at *
  generalize 2 ^ n=T at *
  rw [e3]
  grind
end
section
open Go.RowKit Go.Sort
def rG (n x:Nat):Nat:=x % 2 ^ (64 - n)*2 ^ n
theorem NK (n x:Nat) (hn:n≤64):IntKind.u64.wrap ((x:Int)*2 ^ n)=((rG n x:Nat):Int):=GV n x hn
theorem mW (xs ys:List Nat) (k j:Nat) (_hl:ys.length=xs.length) (hk:k≤xs.length):(xs.take k ++ ys.drop k)[j]?.getD 0=if j<k then xs[j]?.getD 0 else ys[j]?.getD 0:=by
 by_cases h:j<k
 ·rw [if_pos h,List.getElem?_append_left (by simp;omega),List.getElem?_take_of_lt h]
 ·rw [if_neg h,List.getElem?_append_right (by simp;omega),List.getElem?_drop]
  simp only [List.length_take,Nat.min_eq_left hk]
  rw [show k+(j - k)=j by omega]
theorem jc (xs ys:List Nat) (k:Nat) (hl:ys.length=xs.length):(xs.take k ++ ys.drop k).length=xs.length:=by simp;omega
theorem JC {xs ys:List Nat} (hl:xs.length=ys.length) (h:∀ j,j<xs.length→xs[j]?.getD 0=ys[j]?.getD 0):xs=ys:=by
 apply List.ext_getElem hl
 intro j h1 h2
 have:=h j h1
 rwa [List.getElem?_eq_getElem h1,List.getElem?_eq_getElem h2] at this
theorem NC (xs:List Nat) (k s j:Nat) (hk:k<xs.length):(xs.set k s)[j]?.getD 0=if j=k then s else xs[j]?.getD 0:=by
 by_cases h:j=k
 ·subst h;rw [if_pos rfl,List.getElem?_set_self hk];rfl
 ·rw [if_neg h,List.getElem?_set_ne (by omega)]
theorem KT (xs ys:List Nat) (k:Nat) (hl:ys.length=xs.length) (hk:k<xs.length):(xs.take (k+1) ++ ys.drop (k+1)).set k (ys[k]?.getD 0)=xs.take k ++ ys.drop k:=by
 apply JC
 ·rw [List.length_set,jc _ _ _ hl,jc _ _ _ hl]
 ·intro j _
  rw [NC _ _ _ _ (by rw [jc _ _ _ hl];exact hk),mW _ _ _ _ hl (by omega),mW _ _ _ _ hl (by omega)]
  by_cases h:j=k
  ·subst h;rw [if_pos rfl,if_neg (by omega)]
  ·rw [if_neg h]
   by_cases h2:j<k
   ·rw [if_pos (by omega),if_pos h2]
   ·rw [if_neg (by omega),if_neg h2]
theorem VZ (xs ys:List Nat) (k:Nat) (hl:ys.length=xs.length) (hk:k<xs.length):(ys.take k ++ xs.drop k).set k (ys[k]?.getD 0)=ys.take (k+1) ++ xs.drop (k+1):=by
 apply JC
 ·rw [List.length_set,jc _ _ _ hl.symm,jc _ _ _ hl.symm]
 ·intro j _
  rw [NC _ _ _ _ (by rw [jc _ _ _ hl.symm];omega),mW _ _ _ _ hl.symm (by omega),mW _ _ _ _ hl.symm (by omega)]
  by_cases h:j=k
  ·subst h;rw [if_pos rfl,if_pos (by omega)]
  ·rw [if_neg h]
   by_cases h2:j<k
   ·rw [if_pos h2,if_pos (by omega)]
   ·rw [if_neg h2,if_neg (by omega)]
theorem F5 (nx n b o cp:Nat) (xs:List Nat) (w:World) (hn:n≤63) (hH:aB w b o xs) (hx:Dig xs) (hpos:0<xs.length) (hsz:xs.length≤1099511627776) (hnx:xs.length=nx) :
  Calls Tryz.prog 136 #[.slice (some ⟨b,o,none⟩) nx cp,.int .u64 (n:Int)] w (xA w b o xs.length fun ds=>ds=raised n 0 xs):=by
 subst hnx
 have hlr:=Vy n 0 xs
 have HX:=hid hx
 have HLR:=hid hlr
 have HH:=hid hH
 have ho:=fun (x y:Nat) (hy:y<B64)=>Gq n x y (by omega) hy
 have ho1:=fun (x:Nat)=>NK n x (by omega)
 clear hx hlr hH
 go_enter Tryz.func136,Tryz.ntmps136
 go_wp2
 go_loopw [4] (fun iv wr=>∃ (k q:Nat),iv=.int .i64 k∧k<xs.length∧wr=aj w q b o (xs.take (k+1) ++ (raised n 0 xs).drop (k+1))) (fun iv _=>(intOf iv).toNat)
 case atStart=>exact ⟨xs.length - 1,0,by go_num,by omega,by rw [show xs.length - 1+1=xs.length by omega,List.take_of_length_le (Nat.le_refl _),List.drop_of_length_le (by rw [HLR.out];exact Nat.le_refl _),List.append_nil];exact (jH _ _ _ _ HH.out).symm⟩
 case round =>
  obtain ⟨k,q,rfl,hk,hwr⟩:=hrel
  have hHk:aB wr b o (xs.take (k+1) ++ (raised n 0 xs).drop (k+1)):=by rw [hwr];exact bH _ _ _ _ _ _ HH.out (jc _ _ _ HLR.out)
  by_cases h0:0<k
  ·obtain ⟨m,rfl⟩:∃ m,k=m+1:=⟨k - 1,by omega⟩
   obtain ⟨x,hxk⟩:∃ x,xs[m+1]?.getD 0=x:=⟨_,rfl⟩
   obtain ⟨y,hyk⟩:∃ y,xs[m]?.getD 0=y:=⟨_,rfl⟩
   have cx:wr.cell? ⟨b,o+(m+1),none⟩=some (.int .u64 (x:Int)):=by rw [(hHk (m+1) (by rw [jc _ _ _ HLR.out];omega)).1,mW _ _ _ _ HLR.out (by omega),if_pos (by omega),hxk]
   have cy:wr.cell? ⟨b,o+m,none⟩=some (.int .u64 (y:Int)):=by rw [(hHk m (by rw [jc _ _ _ HLR.out];omega)).1,mW _ _ _ _ HLR.out (by omega),if_pos (by omega),hyk]
   have fx:wr.frozen? ⟨b,o+(m+1),none⟩=false:=(hHk (m+1) (by rw [jc _ _ _ HLR.out];omega)).2
   have hy1:y<B64:=by rw [← hyk];exact HX.out.getD m
   have HS:Hid (iH n x y=(raised n 0 xs)[m+1]?.getD 0):=by rw [← hxk,← hyk];exact (MI n 0 xs m (by omega)).symm
   have HW:=hid hwr
   have e1:=ho x y hy1
   clear hwr hxk hyk hHk ho ho1 hy1
   go_wp2
   go_region
   all_goals go_wp2
   go_roundw
   case rel =>
    refine ⟨m,q+1,rfl,by omega,?_⟩
    rw [HW.out,iQ _ _ _ _ _ _ _ (by rw [jc _ _ _ HLR.out];omega),uI,HS.out,KT _ _ _ HLR.out (by omega)]
   case measure=>simp [intOf]
  ·obtain rfl:k=0:=by omega
   obtain ⟨x,hxk⟩:∃ x,xs[0]?.getD 0=x:=⟨_,rfl⟩
   have cx:wr.cell? ⟨b,o,none⟩=some (.int .u64 (x:Int)):=by
    have:=(hHk 0 (by rw [jc _ _ _ HLR.out];omega)).1
    rw [Nat.add_zero,mW _ _ _ _ HLR.out (by omega),if_pos (by omega),hxk] at this
    exact this
   have fx:wr.frozen? ⟨b,o,none⟩=false:=by
    have:=(hHk 0 (by rw [jc _ _ _ HLR.out];omega)).2
    rwa [Nat.add_zero] at this
   have HS:Hid (rG n x=(raised n 0 xs)[0]?.getD 0):=by
    have:=MK n 0 xs (by intro e;subst e;simp at hpos)
    rw [hxk,Nat.add_zero] at this
    exact this.symm
   have HW:=hid hwr
   have e1:=ho1 x
   clear hwr hxk hHk ho ho1
   go_wp2
   go_end0
   refine ⟨raised n 0 xs,q,rfl,?_,HLR.out,X5 n 0 xs (by omega) HX.out (Nat.two_pow_pos _),rfl⟩
   have hset:=iQ w q b o (xs.take (0+1) ++ (raised n 0 xs).drop (0+1)) 0 (rG n x) (by rw [jc _ _ _ HLR.out];omega)
   rw [show o+0=o from Nat.add_zero o] at hset
   rw [HW.out,hset,HS.out,KT _ _ _ HLR.out (by omega)]
   simp
theorem VB (nx n b o cp:Nat) (xs:List Nat) (w:World) (hn:n≤63) (hH:aB w b o xs) (hx:Dig xs) (hsz:xs.length≤1099511627776) (hnx:xs.length=nx) :
  Calls Tryz.prog 139 #[.slice (some ⟨b,o,none⟩) nx cp,.int .u64 (n:Int)] w (xA w b o xs.length fun ds=>val ds=val xs / 2 ^ n):=by
 subst hnx
 have hlr:=Vx n xs
 have HX:=hid hx
 have HLR:=hid hlr
 have HH:=hid hH
 have ho:=fun (x y:Nat) (hy:x<B64)=>Zp n x y (by omega) hy
 clear hx hlr hH
 go_enter Tryz.func139,Tryz.ntmps139
 go_wp2
 go_loopw [7] (fun iv wr=>∃ (k q:Nat),iv=.int .i64 k∧k≤xs.length∧wr=aj w q b o ((lowered n xs).take k ++ xs.drop k)) (fun iv _=>xs.length - (intOf iv).toNat)
 case atStart=>exact ⟨0,0,rfl,by omega,by simpa using (jH _ _ _ _ HH.out).symm⟩
 case round =>
  obtain ⟨k,q,rfl,hk,hwr⟩:=hrel
  have hml:((lowered n xs).take k ++ xs.drop k).length=xs.length:=(jc _ _ _ HLR.out.symm).trans HLR.out
  have hHk:aB wr b o ((lowered n xs).take k ++ xs.drop k):=by rw [hwr];exact bH _ _ _ _ _ _ HH.out hml
  by_cases h0:k<xs.length
  ·obtain ⟨x,hxk⟩:∃ x,xs[k]?.getD 0=x:=⟨_,rfl⟩
   obtain ⟨y,hyk⟩:∃ y,xs[k+1]?.getD 0=y:=⟨_,rfl⟩
   have cx:wr.cell? ⟨b,o+k,none⟩=some (.int .u64 (x:Int)):=by rw [(hHk k (by omega)).1,mW _ _ _ _ HLR.out.symm (by rw [HLR.out];omega),if_neg (by omega),hxk]
   have fx:wr.frozen? ⟨b,o+k,none⟩=false:=(hHk k (by omega)).2
   have hx1:x<B64:=by rw [← hxk];exact HX.out.getD k
   have HY:Hid (((lowered n xs).take k ++ xs.drop k)[k+1]?.getD 0=y):=by rw [mW _ _ _ _ HLR.out.symm (by rw [HLR.out];omega),if_neg (by omega)] ;exact hyk
   have HS:Hid (rH n x y=(lowered n xs)[k]?.getD 0):=by rw [← hxk,← hyk];exact (VE n xs k (by omega)).symm
   have HW:=hid hwr
   have HML:=hid hml
   have e1:=ho x y hx1
   have HHk:=hid hHk
   have hat:=vK xs.length b o cp (k+1) ((lowered n xs).take k ++ xs.drop k) wr.drew HHk.out.aK HML.out
   rw [HY.out,show ((k+1:Nat):Int)=(k:Int)+1 from by omega] at hat
   have HAT:=hid hat
   clear hwr hxk hyk hHk ho hx1 hml hat
   have ew4:(0:Int)≤64 - (n:Int):=by omega
   have ew3:(64 - (n:Int)).toNat=64 - n:=by omega
   have ew1:IntKind.i64.wrap ((k:Int)+1)=(k:Int)+1:=IntWalk.i64_in _ (by omega)
   have ew2:IntKind.u64.wrap (64 - (n:Int))=64 - (n:Int):=IntWalk.u64_in _ (by omega)
   go_wp2
   go_region_with (first | (go_at_call 157;refine HAT.out.mono ?_;rintro e w' ⟨rfl,rfl⟩))
   all_goals clear ew1 ew2 ew3 ew4
   all_goals go_wp2
   all_goals
    go_roundw
    case rel =>
     refine ⟨k+1,q+1,by go_num,by omega,?_⟩
     rw [← VZ _ _ _ HLR.out h0,← HS.out,← iQ _ _ _ _ _ _ _ (by rw [HML.out];exact h0),← uI,← HW.out]
     rfl
    case measure=>simp [intOf];omega
  ·have hkl:k=xs.length:=by omega
   have HW:Hid (wr=aj w q b o (lowered n xs)):=by
    rw [hkl,List.take_of_length_le (by rw [HLR.out];exact Nat.le_refl _),List.drop_of_length_le (Nat.le_refl _),List.append_nil] at hwr
    exact hwr
   clear hkl hwr hml hHk ho
   go_wp2
   go_end0
   exact ⟨lowered n xs,q,rfl,HW.out,HLR.out,VD n xs (by omega) HX.out,VF n xs (by omega)⟩
end
end Go.Proofs.YtancpaiaoamjlaaGreatDoor
